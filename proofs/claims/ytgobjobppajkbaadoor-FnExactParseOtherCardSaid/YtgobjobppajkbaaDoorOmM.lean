/-
  MAPS BY RESIDUES: plain mathematics. No Go, no program.
-/
import Derived.Test.YtgobjobppajkbaaDoorMath
namespace Go.Proofs.YtgobjobppajkbaaDoor

/-- A part: Times, Plus, Over. -/
abbrev Pt := Int × Int × Int
def pt0 : Pt := (0, 0, 0)
/-- Are the numbers of a part within their bounds? -/
def ptIn (q : Pt) : Bool := decide (1 ≤ q.1 ∧ q.1 ≤ 20 ∧ -20 ≤ q.2.1 ∧ q.2.1 ≤ 20 ∧ 1 ≤ q.2.2 ∧ q.2.2 ≤ 20)
theorem ptIn_iff {q : Pt} : ptIn q = true ↔ 1 ≤ q.1 ∧ q.1 ≤ 20 ∧ -20 ≤ q.2.1 ∧ q.2.1 ≤ 20 ∧ 1 ≤ q.2.2 ∧ q.2.2 ≤ 20 := by simp [ptIn]
/-- Is a part one for a residue? -/
def ptOk (q : Pt) (r m : Int) : Bool := ptIn q && decide ((q.1 * r + q.2.1) % q.2.2 = 0) && decide ((q.1 * m) % q.2.2 = 0)
theorem ptOk_iff {q : Pt} {r m : Int} : ptOk q r m = true ↔ ptIn q = true ∧ (q.1 * r + q.2.1) % q.2.2 = 0 ∧ (q.1 * m) % q.2.2 = 0 := by simp [ptOk, and_assoc]
/-- Is it an other map? -/
def omB (ps : List Pt) : Bool := decide (1 ≤ ps.length ∧ ps.length ≤ 8) && (List.range ps.length).all fun r => ptOk (ps.getD r pt0) r ps.length
theorem omB_iff {ps : List Pt} : omB ps = true ↔ (1 ≤ ps.length ∧ ps.length ≤ 8) ∧ ∀ r, r < ps.length → ptOk (ps.getD r pt0) r ps.length = true := by
  simp [omB]
theorem omB_len {ps : List Pt} (h : omB ps = true) : 1 ≤ ps.length ∧ ps.length ≤ 8 := (omB_iff.1 h).1
theorem omB_at {ps : List Pt} (h : omB ps = true) {r : Nat} (hr : r < ps.length) : ptOk (ps.getD r pt0) r ps.length = true := (omB_iff.1 h).2 r hr
/-- What is whole for two numbers beside each other with the residue is whole for all. -/
theorem ptOk_two {q : Pt} {r m : Int} (h : ptIn q = true) : ptOk q r m = (decide ((q.1 * r + q.2.1) % q.2.2 = 0) && decide ((q.1 * (r + m) + q.2.1) % q.2.2 = 0)) := by
  unfold ptOk
  rw [h, Bool.true_and, Bool.eq_iff_iff]
  simp only [Bool.and_eq_true, decide_eq_true_eq]
  have e : q.1 * (r + m) + q.2.1 = (q.1 * r + q.2.1) + q.1 * m := by rw [Int.mul_add]; omega
  rw [e]
  constructor
  · rintro ⟨h1, h2⟩
    exact ⟨h1, by rw [Int.add_emod, h1, h2]; simp⟩
  · rintro ⟨h1, h2⟩
    refine ⟨h1, ?_⟩
    rw [Int.add_emod, h1, Int.zero_add, Int.emod_emod_of_dvd _ (Int.dvd_refl _)] at h2
    exact h2
/-- The residue of a number, less than 0 or not. -/
def res (m : Nat) (n : Int) : Nat := (n % (m : Int)).toNat
theorem res_lt {m : Nat} (n : Int) (h : 1 ≤ m) : res m n < m := by
  have h1 := Int.emod_nonneg n (show (m : Int) ≠ 0 by omega)
  have h2 := Int.emod_lt_of_pos n (show (0 : Int) < m by omega)
  unfold res
  omega
theorem res_cast {m : Nat} (n : Int) (h : 1 ≤ m) : ((res m n : Nat) : Int) = n % (m : Int) := by
  have h1 := Int.emod_nonneg n (show (m : Int) ≠ 0 by omega)
  unfold res
  omega
theorem res_small {m r : Nat} (h : r < m) : res m (r : Int) = r := by
  unfold res
  rw [Int.emod_eq_of_lt (by omega) (by omega)]
  omega
/-- The part that a number takes. -/
def ptOf (ps : List Pt) (n : Int) : Pt := ps.getD (res ps.length n) pt0
/-- What is behind a part, if it is whole. -/
def pbh (q : Pt) (n : Int) : Int := (q.1 * n + q.2.1) / q.2.2
/-- A step. -/
def omN (ps : List Pt) (n : Int) : Int := pbh (ptOf ps n) n
theorem ptOf_ok {ps : List Pt} (h : omB ps = true) (n : Int) : ptOk (ptOf ps n) (res ps.length n) ps.length = true := omB_at h (res_lt n (omB_len h).1)
theorem ptOf_in {ps : List Pt} (h : omB ps = true) (n : Int) : ptIn (ptOf ps n) = true := (ptOk_iff.1 (ptOf_ok h n)).1
/-- A number of the residue r: its part makes it whole. -/
theorem pt_whole {q : Pt} {r m n : Int} (h : ptOk q r m = true) (hn : n % m = r) : (q.1 * n + q.2.1) % q.2.2 = 0 := by
  obtain ⟨_, h1, h2⟩ := ptOk_iff.1 h
  have e : q.1 * n + q.2.1 = (q.1 * r + q.2.1) + (q.1 * m) * (n / m) := by
    have := Int.mul_ediv_add_emod n m
    rw [hn] at this
    rw [← this, Int.mul_add, Int.mul_assoc q.1 m]
    rw [this]
    omega
  rw [e, Int.add_emod, h1, Int.mul_emod, h2]
  simp
theorem om_whole {ps : List Pt} (h : omB ps = true) (n : Int) : ((ptOf ps n).1 * n + (ptOf ps n).2.1) % (ptOf ps n).2.2 = 0 :=
  pt_whole (ptOf_ok h n) (res_cast n (omB_len h).1).symm
theorem tdiv_exact {a b : Int} (h : a % b = 0) : a.tdiv b = a / b := by
  rw [Int.tdiv_eq_ediv_of_dvd (Int.dvd_of_emod_eq_zero h)]
theorem tmod_zero_iff (a b : Int) : a.tmod b = 0 ↔ a % b = 0 := by
  rw [← Int.dvd_iff_tmod_eq_zero, ← Int.dvd_iff_emod_eq_zero]
theorem tmod_zero_b (a b : Int) : (a.tmod b == 0) = decide (a % b = 0) := by
  rw [Bool.eq_iff_iff]
  simp [tmod_zero_iff]
theorem om_tdiv {ps : List Pt} (h : omB ps = true) (n : Int) : ((ptOf ps n).1 * n + (ptOf ps n).2.1).tdiv (ptOf ps n).2.2 = omN ps n := tdiv_exact (om_whole h n)
/-- Program's and model's way to the residue. -/
theorem res_two (n m : Int) (h : 0 < m) : (n.tmod m + m).tmod m = n % m := by
  have h1 := Int.tmod_nonneg m (show 0 ≤ n.tmod m + m by
    have := Int.lt_tmod_of_pos n h
    omega)
  rw [Int.tmod_eq_emod_of_nonneg (by have := Int.lt_tmod_of_pos n h; omega), Int.add_emod_right]
  rw [Int.tmod_eq_emod]
  split
  · rw [Int.natCast_zero, Int.sub_zero, Int.emod_emod_of_dvd _ (Int.dvd_refl _)]
  · rw [show ((m.natAbs : Nat) : Int) = m by omega, Int.sub_emod, Int.emod_self, Int.sub_zero, Int.emod_emod_of_dvd _ (Int.dvd_refl _), Int.emod_emod_of_dvd _ (Int.dvd_refl _)]

theorem mul20 {t n B : Int} (h1 : 1 ≤ t) (h2 : t ≤ 20) (h3 : -B ≤ n) (h4 : n ≤ B) : -(20 * B) ≤ t * n ∧ t * n ≤ 20 * B := by
  have hB : 0 ≤ B := by omega
  rcases Int.le_total 0 n with h | h
  · have a := Int.mul_nonneg (show 0 ≤ t by omega) h
    have b := Int.mul_le_mul h2 h4 h (show (0 : Int) ≤ 20 by omega)
    omega
  · have a := Int.mul_nonneg (show 0 ≤ t by omega) (show 0 ≤ -n by omega)
    have b := Int.mul_le_mul h2 (show -n ≤ B by omega) (show 0 ≤ -n by omega) (show (0 : Int) ≤ 20 by omega)
    rw [Int.mul_neg] at a b
    omega
theorem ediv_size {a b B : Int} (hb : 1 ≤ b) (h1 : -B ≤ a) (h2 : a ≤ B) : -B ≤ a / b ∧ a / b ≤ B := by
  have hB : 0 ≤ B := by omega
  constructor
  · rw [Int.le_ediv_iff_mul_le (by omega)]
    have := Int.mul_le_mul_of_nonneg_left hb hB
    rw [Int.neg_mul]
    omega
  · rcases Int.le_total 0 a with h | h
    · exact Int.le_trans (Int.ediv_le_self _ h) h2
    · exact Int.le_trans (Int.ediv_nonpos_of_nonpos_of_neg h (by omega)) hB
theorem pt_big {q : Pt} {n : Int} (h : ptIn q = true) (hn : numB n = true) : -20000000000020 ≤ q.1 * n + q.2.1 ∧ q.1 * n + q.2.1 ≤ 20000000000020 := by
  obtain ⟨a, b, c, d, _⟩ := ptIn_iff.1 h
  have := numB_iff.1 hn
  have := mul20 (B := 1000000000000) a b (by omega) this.2
  omega
theorem omN_big {ps : List Pt} {n : Int} (h : omB ps = true) (hn : numB n = true) : -20000000000020 ≤ omN ps n ∧ omN ps n ≤ 20000000000020 := by
  obtain ⟨_, _, _, _, e, _⟩ := ptIn_iff.1 (ptOf_in h n)
  have := pt_big (ptOf_in h n) hn
  exact ediv_size e this.1 this.2

/-- What a walk of an other map gives, one pair after the other. -/
def seqO (ps : List Pt) (f : Int → Int) (n : Int) : List (Int × Int) := if omB ps = true then upto f n (cntF f 401 n) else []
/-- What is behind k steps, and whether it is there. -/
def aftO (ps : List Pt) (f : Int → Int) (n k : Int) : Int × Bool :=
  if (omB ps = true ∧ 0 ≤ k ∧ k ≤ 400) ∧ allB f n (k.toNat + 1) = true then (itr f k.toNat n, true) else (0, false)
theorem cntF_le (f : Int → Int) (K : Nat) (n : Int) : cntF f K n ≤ K := by
  by_cases h : cntF f K n ≤ K
  · exact h
  · have := (lt_cnt f K n K).1 (by omega)
    omega
theorem seqO_length (ps : List Pt) (f : Int → Int) (n : Int) : (seqO ps f n).length ≤ 401 := by
  unfold seqO
  split
  · rw [upto_length]; exact cntF_le _ _ _
  · simp
theorem aftO_of_prefix {ps : List Pt} {f : Int → Int} {n k v : Int} {pre : List (Int × Int)} (hp : (pre ++ [(k, v)]) <+: seqO ps f n) :
    aftO ps f n k = (v, true) ∧ (pre ++ [(k, v)]).map (·.2) = (List.range (k.toNat + 1)).map (fun (i : Nat) => itr f i n) := by
  unfold seqO at hp
  split at hp
  · rename_i hg
    obtain ⟨he, hl⟩ := prefix_upto hp
    have hlen : (pre ++ [(k, v)]).length = pre.length + 1 := by simp
    rw [hlen] at he hl
    have hk : (k, v) = ((pre.length : Int), itr f pre.length n) := by
      rw [upto_succ] at he
      have := List.append_inj_right' he rfl
      simpa using this
    have hk1 : k = (pre.length : Int) := congrArg Prod.fst hk
    have hv1 : v = itr f pre.length n := congrArg Prod.snd hk
    have hc := (lt_cnt f 401 n pre.length).1 (by omega)
    have ht : k.toNat = pre.length := by omega
    refine ⟨?_, ?_⟩
    · unfold aftO
      rw [if_pos ⟨⟨hg, by omega, by omega⟩, by rw [ht]; exact hc.2⟩, ht, hv1]
    · rw [he, ht, upto, List.map_map]; rfl
  · obtain ⟨r, hr⟩ := hp
    simp at hr
theorem aftO_of_none {ps : List Pt} {f : Int → Int} {n k : Int} (h : ∀ x ∈ seqO ps f n, x.1 ≠ k) : aftO ps f n k = (0, false) := by
  unfold aftO
  rw [if_neg]
  rintro ⟨⟨hg, h0, h1⟩, hl⟩
  have hlt : k.toNat < cntF f 401 n := (lt_cnt _ _ _ _).2 ⟨by omega, hl⟩
  refine h ((k.toNat : Int), itr f k.toNat n) ?_ (by dsimp only; omega)
  rw [seqO, if_pos hg, upto, List.mem_map]
  exact ⟨k.toNat, by simpa using hlt, rfl⟩

/-- What is n behind a step by a part, for the residue r modulo m. -/
def bfAt (q : Pt) (r m : Nat) (n : Int) : Option Int :=
  if (q.2.2 * n - q.2.1) % q.1 = 0 ∧ (q.2.2 * n - q.2.1) / q.1 % (m : Int) = (r : Int) then some ((q.2.2 * n - q.2.1) / q.1) else none
/-- All that are n behind a step, in the order of their residues. -/
def bfO (ps : List Pt) (n : Int) : List Int := (List.range ps.length).filterMap fun r => bfAt (ps.getD r pt0) r ps.length n
theorem bfAt_eq {q : Pt} {r m : Nat} {n x : Int} (ht : 1 ≤ q.1) : bfAt q r m n = some x ↔ q.1 * x + q.2.1 = q.2.2 * n ∧ x % (m : Int) = (r : Int) := by
  unfold bfAt
  constructor
  · intro h
    split at h
    · rename_i hc
      obtain rfl : (q.2.2 * n - q.2.1) / q.1 = x := by simpa using h
      refine ⟨?_, hc.2⟩
      have := Int.mul_ediv_cancel' (Int.dvd_of_emod_eq_zero hc.1)
      omega
    · cases h
  · rintro ⟨h1, h2⟩
    have e : q.2.2 * n - q.2.1 = q.1 * x := by omega
    have e2 : (q.2.2 * n - q.2.1) / q.1 = x := by rw [e, Int.mul_ediv_cancel_left _ (by omega)]
    have e3 : (q.2.2 * n - q.2.1) % q.1 = 0 := by rw [e, Int.mul_emod_right]
    rw [if_pos ⟨e3, by rw [e2]; exact h2⟩, e2]
theorem mem_bfO {ps : List Pt} (h : omB ps = true) {n x : Int} : x ∈ bfO ps n ↔ omN ps x = n := by
  have hm := omB_len h
  unfold bfO
  rw [List.mem_filterMap]
  constructor
  · rintro ⟨r, hr, e⟩
    rw [List.mem_range] at hr
    have hok := omB_at h hr
    have hi := ptIn_iff.1 (ptOk_iff.1 hok).1
    obtain ⟨h1, h2⟩ := (bfAt_eq hi.1).1 e
    have hres : res ps.length x = r := by
      unfold res; rw [h2]; omega
    unfold omN ptOf pbh
    rw [hres, h1]
    exact Int.mul_ediv_cancel_left _ (by omega)
  · intro e
    refine ⟨res ps.length x, by rw [List.mem_range]; exact res_lt x hm.1, ?_⟩
    have hok := ptOf_ok h x
    have hi := ptIn_iff.1 (ptOk_iff.1 hok).1
    refine (bfAt_eq hi.1).2 ⟨?_, (res_cast x hm.1).symm⟩
    rw [← e]
    have := Int.mul_ediv_cancel' (Int.dvd_of_emod_eq_zero (om_whole h x))
    exact this.symm
theorem bf_size {q : Pt} {n : Int} (h : ptIn q = true) (hn : numB n = true) : -20000000000020 ≤ q.2.2 * n - q.2.1 ∧ q.2.2 * n - q.2.1 ≤ 20000000000020 := by
  obtain ⟨_, _, c, d, e, f⟩ := ptIn_iff.1 h
  have := numB_iff.1 hn
  have := mul20 (B := 1000000000000) e f (by omega) this.2
  omega
end Go.Proofs.YtgobjobppajkbaaDoor
