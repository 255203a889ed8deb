/-
  IMAGES OF AN OTHER MAP, AND WHETHER IT IS ONE TO ONE: plain mathematics. No Go, no program.
-/
import Derived.Test.YtbhmplccjaijjaaOmM
namespace Go.Proofs.Ytbhmplccjaijjaa

/-- What the numbers of the residue r become: a residue and a modulus. -/
def imMod (q : Pt) (m : Nat) : Int := q.1 * (m : Int) / q.2.2
def imP (q : Pt) (r m : Nat) : Int × Int := (pbh q r % imMod q m, imMod q m)
def imAt (ps : List Pt) (r : Nat) : Int × Int := imP (ps.getD r pt0) r ps.length
def imL (ps : List Pt) : List (Int × Int) := (List.range ps.length).map (imAt ps)
theorem tdiv_sizeJ {a g B : Int} (h0 : -B ≤ a) (h1 : a ≤ B) : -B ≤ a.tdiv g ∧ a.tdiv g ≤ B := by
  have : (a.tdiv g).natAbs ≤ a.natAbs := by rw [Int.natAbs_tdiv]; exact Nat.div_le_self _ _
  omega
theorem imL_length (ps : List Pt) : (imL ps).length = ps.length := by simp [imL]
theorem imL_at {ps : List Pt} {r : Nat} (h : r < ps.length) : (imL ps).getD r (0, 0) = imAt ps r := by
  simp [imL, List.getD_eq_getElem?_getD, h]
theorem imMod_mul {q : Pt} {r m : Nat} (h : ptOk q r m = true) : q.2.2 * imMod q m = q.1 * (m : Int) :=
  Int.mul_ediv_cancel' (Int.dvd_of_emod_eq_zero (ptOk_iff.1 h).2.2)
theorem imMod_pos {q : Pt} {r m : Nat} (h : ptOk q r m = true) (hm : 1 ≤ m) : 1 ≤ imMod q m := by
  have hi := ptIn_iff.1 (ptOk_iff.1 h).1
  have e := imMod_mul h
  have hp : 0 < q.1 * (m : Int) := Int.mul_pos (by omega) (by omega)
  rw [← e] at hp
  rcases Int.le_total 1 (imMod q m) with h1 | h1
  · exact h1
  · rcases Int.le_total (imMod q m) 0 with h2 | h2
    · have := Int.mul_nonneg (show 0 ≤ q.2.2 by omega) (show 0 ≤ -imMod q m by omega)
      rw [Int.mul_neg] at this
      omega
    · have : imMod q m = 1 ∨ imMod q m = 0 := by omega
      rcases this with e3 | e3
      · omega
      · rw [e3, Int.mul_zero] at hp
        omega
theorem imMod_le {q : Pt} {r m : Nat} (h : ptOk q r m = true) (hm : m ≤ 8) : imMod q m ≤ 160 := by
  have hi := ptIn_iff.1 (ptOk_iff.1 h).1
  have h1 : q.1 * (m : Int) ≤ 20 * 8 := Int.mul_le_mul hi.2.1 (by omega) (by omega) (by omega)
  have h0 : 0 ≤ q.1 * (m : Int) := Int.mul_nonneg (by omega) (by omega)
  exact Int.le_trans (Int.ediv_le_self _ h0) h1
/-- Behind two numbers beside each other with the residue: the modulus lies between. -/
theorem pbh_step {q : Pt} {r m : Nat} (h : ptOk q r m = true) (k : Int) : pbh q (r + (m : Int) * k) = pbh q r + imMod q m * k := by
  have hi := ptIn_iff.1 (ptOk_iff.1 h).1
  have e : q.1 * (r + (m : Int) * k) + q.2.1 = (q.1 * r + q.2.1) + q.2.2 * (imMod q m * k) := by
    rw [← Int.mul_assoc, imMod_mul h, Int.mul_add, Int.mul_assoc]; omega
  unfold pbh
  rw [e, Int.add_mul_ediv_left _ _ (by omega)]
theorem pbh_next {q : Pt} {r m : Nat} (h : ptOk q r m = true) : pbh q ((r : Int) + (m : Int)) - pbh q r = imMod q m := by
  have := pbh_step h 1
  rw [Int.mul_one, Int.mul_one] at this
  omega
theorem pbh_size {q : Pt} {n : Int} (h : ptIn q = true) (h0 : 0 ≤ n) (h1 : n ≤ 16) : -340 ≤ pbh q n ∧ pbh q n ≤ 340 := by
  obtain ⟨a, b, c, d, e, _⟩ := ptIn_iff.1 h
  have := mul20 (B := 16) a b (by omega) h1
  exact ediv_size e (by omega) (by omega)

/-- Do two images meet? -/
def meetB (a b : Int × Int) : Bool := decide ((a.1 - b.1) % (Int.gcd a.2 b.2 : Int) = 0)
/-- The first j moduli multiplied, and the sum of what each of them is of that. -/
def prodI : List (Int × Int) → Int
  | [] => 1
  | a :: l => prodI l * a.2
def shrI : List (Int × Int) → Int
  | [] => 0
  | a :: l => shrI l * a.2 + prodI l
/-- Has each image nothing in common with those behind it in the list? -/
def freeI : List (Int × Int) → Bool
  | [] => true
  | a :: l => freeI l && l.all (fun b => !meetB a b)
/-- Is it one to one? The images last to first. -/
def oneB (ps : List Pt) : Bool := freeI (imL ps).reverse && decide (shrI (imL ps).reverse = prodI (imL ps).reverse)

theorem prodI_pos : ∀ {l : List (Int × Int)}, (∀ a ∈ l, 1 ≤ a.2) → 1 ≤ prodI l
  | [], _ => Int.le_refl _
  | a :: l, h => by
    have h1 := prodI_pos (l := l) (fun b hb => h b (List.mem_cons_of_mem _ hb))
    have h2 := h a List.mem_cons_self
    have := Int.mul_le_mul h1 h2 (by omega) (by omega)
    unfold prodI
    omega
theorem prodI_dvd : ∀ {l : List (Int × Int)} {a : Int × Int}, a ∈ l → a.2 ∣ prodI l
  | b :: l, a, h => by
    unfold prodI
    rcases List.mem_cons.1 h with rfl | h
    · exact Int.dvd_mul_left _ _
    · exact Int.dvd_trans (prodI_dvd h) (Int.dvd_mul_right _ _)
/-- A whole that all moduli divide, parted among them. -/
theorem shr_sum : ∀ {l : List (Int × Int)} (P : Int), (∀ a ∈ l, 1 ≤ a.2) → prodI l ∣ P → (l.map fun a => P / a.2).sum = shrI l * (P / prodI l)
  | [], P, _, _ => by simp [shrI]
  | a :: l, P, h, hd => by
    have ha := h a List.mem_cons_self
    have hl : ∀ b ∈ l, 1 ≤ b.2 := fun b hb => h b (List.mem_cons_of_mem _ hb)
    have hp := prodI_pos hl
    obtain ⟨c, rfl⟩ := hd
    have e : prodI (a :: l) = prodI l * a.2 := rfl
    have ih := shr_sum (l := l) (prodI (a :: l) * c) hl (by rw [e, Int.mul_assoc]; exact Int.dvd_mul_right _ _)
    rw [List.map_cons, List.sum_cons, ih, e, Int.mul_ediv_cancel_left _ (by have := Int.mul_pos (show 0 < prodI l by omega) (show 0 < a.2 by omega); omega)]
    have e1 : prodI l * a.2 * c / a.2 = prodI l * c := by
      rw [show prodI l * a.2 * c = a.2 * (prodI l * c) by rw [Int.mul_comm (prodI l) a.2, Int.mul_assoc], Int.mul_ediv_cancel_left _ (by omega)]
    have e2 : prodI l * a.2 * c / prodI l = a.2 * c := by
      rw [Int.mul_assoc, Int.mul_ediv_cancel_left _ (by omega)]
    rw [e1, e2]
    show _ = (shrI l * a.2 + prodI l) * c
    rw [Int.add_mul, Int.mul_assoc]
    omega

/-- How many of the first L numbers have a residue. -/
def cntR (a M : Int) : Nat → Nat
  | 0 => 0
  | L + 1 => cntR a M L + (if (L : Int) % M = a then 1 else 0)
theorem cntR_add (a M : Int) (hM : 1 ≤ M) (X : Nat) : ∀ (Y : Nat), (X : Int) % M = 0 → cntR a M (X + Y) = cntR a M X + cntR a M Y
  | 0, _ => rfl
  | Y + 1, h => by
    rw [← Nat.add_assoc, cntR, cntR_add a M hM X Y h, cntR, Int.natCast_add, Int.add_emod, h, Int.zero_add, Int.emod_emod_of_dvd _ (Int.dvd_refl _)]
    omega
theorem cntR_none (a M : Int) (hM : 1 ≤ M) (ha : a < M) : ∀ (Y : Nat), (Y : Int) ≤ a → cntR a M Y = 0
  | 0, _ => rfl
  | Y + 1, h => by
    rw [cntR, cntR_none a M hM ha Y (by omega), if_neg]
    rw [Int.emod_eq_of_lt (by omega) (by omega)]
    omega
theorem cntR_some (a M : Int) (hM : 1 ≤ M) (h0 : 0 ≤ a) (ha : a < M) : ∀ (Y : Nat), a < (Y : Int) → (Y : Int) ≤ M → cntR a M Y = 1
  | 0, h, _ => by omega
  | Y + 1, h, h2 => by
    rw [cntR, Int.emod_eq_of_lt (by omega) (by omega)]
    by_cases e : (Y : Int) = a
    · rw [cntR_none a M hM ha Y (by omega), if_pos e]
    · rw [cntR_some a M hM h0 ha Y (by omega) (by omega), if_neg e]
theorem cntR_mul (a : Int) (M : Nat) (hM : 1 ≤ M) (h0 : 0 ≤ a) (ha : a < (M : Int)) : ∀ (k : Nat), cntR a M (M * k) = k
  | 0 => rfl
  | k + 1 => by
    rw [Nat.mul_succ, cntR_add a M (by omega) _ _ (by rw [Int.natCast_mul]; exact Int.mul_emod_right _ _), cntR_mul a M hM h0 ha k, cntR_some a M (by omega) h0 ha M ha (Int.le_refl _)]
/-- In how many images a number is. -/
def inHow (l : List (Int × Int)) (y : Int) : Nat := (l.map fun a => if y % a.2 = a.1 then 1 else 0).sum
/-- The same for all numbers below a limit. -/
def sumTo (f : Nat → Nat) : Nat → Nat
  | 0 => 0
  | L + 1 => sumTo f L + f L
theorem sumTo_inHow (l : List (Int × Int)) (L : Nat) : sumTo (fun y => inHow l y) L = (l.map fun a => cntR a.1 a.2 L).sum := by
  induction L with
  | zero =>
    show 0 = _
    induction l with
    | nil => rfl
    | cons a l ih => rw [List.map_cons, List.sum_cons, ← ih]; rfl
  | succ L ih =>
    rw [sumTo, ih]
    clear ih
    induction l with
    | nil => rfl
    | cons a l ih =>
      simp only [inHow, List.map_cons, List.sum_cons, cntR] at ih ⊢
      omega
theorem sumTo_all {f : Nat → Nat} (h : ∀ y, f y ≤ 1) : ∀ {L : Nat}, sumTo f L = L → ∀ y, y < L → f y = 1
  | 0, _, y, hy => by omega
  | L + 1, e, y, hy => by
    have hle : ∀ K, sumTo f K ≤ K := by
      intro K
      induction K with
      | zero => exact Nat.le_refl _
      | succ K ih => have := h K; rw [sumTo]; omega
    rw [sumTo] at e
    have a := hle L
    have b := h L
    by_cases hy2 : y = L
    · subst hy2; omega
    · exact sumTo_all h (L := L) (by omega) y (by omega)
theorem emod_sub_gcd {y a b M K : Int} (h1 : y % M = a) (h2 : y % K = b) : (a - b) % (Int.gcd M K : Int) = 0 := by
  apply Int.emod_eq_zero_of_dvd
  have d1 : (Int.gcd M K : Int) ∣ M := Int.gcd_dvd_left ..
  have d2 : (Int.gcd M K : Int) ∣ K := Int.gcd_dvd_right ..
  have e1 : a = y - M * (y / M) := by rw [← h1]; have := Int.mul_ediv_add_emod y M; omega
  have e2 : b = y - K * (y / K) := by rw [← h2]; have := Int.mul_ediv_add_emod y K; omega
  have e3 : a - b = K * (y / K) - M * (y / M) := by omega
  rw [e3]
  exact Int.dvd_sub (Int.dvd_trans d2 (Int.dvd_mul_right _ _)) (Int.dvd_trans d1 (Int.dvd_mul_right _ _))
theorem inHow_le : ∀ {l : List (Int × Int)}, freeI l = true → ∀ y : Int, inHow l y ≤ 1
  | [], _, y => Nat.zero_le _
  | a :: l, h, y => by
    simp only [freeI, Bool.and_eq_true, List.all_eq_true, Bool.not_eq_true'] at h
    have ih := inHow_le h.1 y
    show (if y % a.2 = a.1 then 1 else 0) + inHow l y ≤ 1
    by_cases e : y % a.2 = a.1
    · rw [if_pos e]
      have : inHow l y = 0 := by
        have hz : ∀ b ∈ l, y % b.2 ≠ b.1 := fun b hb e2 => by
          have := h.2 b hb
          unfold meetB at this
          rw [decide_eq_false_iff_not] at this
          exact this (emod_sub_gcd e e2)
        clear ih h
        induction l with
        | nil => rfl
        | cons b l ih2 =>
          show (if y % b.2 = b.1 then 1 else 0) + inHow l y = 0
          rw [if_neg (hz b List.mem_cons_self), ih2 (fun c hc => hz c (List.mem_cons_of_mem _ hc))]
      omega
    · rw [if_neg e]; omega
theorem inHow_some : ∀ {l : List (Int × Int)} {y : Int}, inHow l y ≠ 0 → ∃ a ∈ l, y % a.2 = a.1
  | [], y, h => (h rfl).elim
  | a :: l, y, h => by
    by_cases e : y % a.2 = a.1
    · exact ⟨a, List.mem_cons_self, e⟩
    · have : inHow l y ≠ 0 := by
        intro h2
        refine h ?_
        show (if y % a.2 = a.1 then 1 else 0) + inHow l y = 0
        rw [if_neg e, h2]
      obtain ⟨b, hb, e2⟩ := inHow_some this
      exact ⟨b, List.mem_cons_of_mem _ hb, e2⟩
/-- Images that have nothing in common, and all numbers together: each number is in one. -/
theorem in_some {l : List (Int × Int)} (hr : ∀ a ∈ l, 1 ≤ a.2 ∧ 0 ≤ a.1 ∧ a.1 < a.2) (hf : freeI l = true) (hs : shrI l = prodI l) (n : Int) : ∃ a ∈ l, n % a.2 = a.1 := by
  have hp := prodI_pos (l := l) (fun a ha => (hr a ha).1)
  obtain ⟨L, hL⟩ : ∃ L : Nat, (L : Int) = prodI l := ⟨(prodI l).toNat, by omega⟩
  have hsum : (l.map fun a => cntR a.1 a.2 L).sum = L := by
    have h1 := shr_sum (l := l) (prodI l) (fun a ha => (hr a ha).1) (Int.dvd_refl _)
    rw [Int.ediv_self (by omega), Int.mul_one, hs] at h1
    have h2 : ∀ a ∈ l, ((cntR a.1 a.2 L : Nat) : Int) = prodI l / a.2 := by
      intro a ha
      obtain ⟨c, hc⟩ := prodI_dvd ha
      obtain ⟨b1, b2, b3⟩ := hr a ha
      obtain ⟨M, hM⟩ : ∃ M : Nat, (M : Int) = a.2 := ⟨a.2.toNat, by omega⟩
      have hc0 : 0 ≤ c := by
        rcases Int.le_total 0 c with h | h
        · exact h
        · have := Int.mul_nonneg (show 0 ≤ a.2 by omega) (show 0 ≤ -c by omega)
          rw [Int.mul_neg, ← hc] at this
          omega
      obtain ⟨k, hk⟩ : ∃ k : Nat, (k : Int) = c := ⟨c.toNat, by omega⟩
      have hLk : L = M * k := by
        have : (L : Int) = (M : Int) * (k : Int) := by rw [hL, hM, hk]; exact hc
        rw [← Int.natCast_mul] at this
        exact Int.ofNat.inj this
      rw [hLk, ← hM, cntR_mul a.1 M (by omega) b2 (by omega) k, hc, ← hM, Int.mul_ediv_cancel_left _ (by omega), hk]
    have h3 : (((l.map fun a => cntR a.1 a.2 L).sum : Nat) : Int) = (l.map fun a => prodI l / a.2).sum := by
      clear h1
      generalize prodI l = P at *
      clear hr hf hs hp
      induction l with
      | nil => rfl
      | cons a l ih =>
        rw [List.map_cons, List.sum_cons, List.map_cons, List.sum_cons, Int.natCast_add, h2 a List.mem_cons_self, ih (fun b hb => h2 b (List.mem_cons_of_mem _ hb))]
    rw [h1, ← hL] at h3
    exact Int.ofNat.inj h3
  rw [← sumTo_inHow] at hsum
  have hall := sumTo_all (f := fun y => inHow l y) (fun y => inHow_le hf y) hsum
  have hn0 := Int.emod_nonneg n (show prodI l ≠ 0 by omega)
  have hn1 := Int.emod_lt_of_pos n (show 0 < prodI l by omega)
  have := hall (n % prodI l).toNat (by omega)
  obtain ⟨a, ha, e⟩ := inHow_some (l := l) (y := ((n % prodI l).toNat : Int)) (by omega)
  refine ⟨a, ha, ?_⟩
  rw [show (((n % prodI l).toNat : Nat) : Int) = n % prodI l by omega, Int.emod_emod_of_dvd _ (prodI_dvd ha)] at e
  exact e
theorem imAt_ok {ps : List Pt} (h : omB ps = true) {r : Nat} (hr : r < ps.length) : 1 ≤ (imAt ps r).2 ∧ 0 ≤ (imAt ps r).1 ∧ (imAt ps r).1 < (imAt ps r).2 := by
  have hp := imMod_pos (omB_at h hr) (omB_len h).1
  exact ⟨hp, Int.emod_nonneg _ (by omega), Int.emod_lt_of_pos _ (by omega)⟩
theorem mem_imL {ps : List Pt} {a : Int × Int} : a ∈ imL ps ↔ ∃ r, r < ps.length ∧ imAt ps r = a := by simp [imL]
/-- What is in an image is behind a step. -/
theorem in_image {ps : List Pt} (h : omB ps = true) {r : Nat} (hr : r < ps.length) {n : Int} (e : n % (imAt ps r).2 = (imAt ps r).1) : ∃ x, omN ps x = n := by
  have hok := omB_at h hr
  obtain ⟨q, hq⟩ : ∃ q, ps.getD r pt0 = q := ⟨_, rfl⟩
  rw [hq] at hok
  unfold imAt imP at e
  rw [hq] at e
  dsimp only at e
  have hM := imMod_pos hok (omB_len h).1
  have hk : n = pbh q r + imMod q ps.length * (n / imMod q ps.length - pbh q r / imMod q ps.length) := by
    have a := Int.mul_ediv_add_emod n (imMod q ps.length)
    have b := Int.mul_ediv_add_emod (pbh q r) (imMod q ps.length)
    rw [Int.mul_sub]
    omega
  rw [← pbh_step hok] at hk
  obtain ⟨k, hkk⟩ : ∃ k, n / imMod q ps.length - pbh q r / imMod q ps.length = k := ⟨_, rfl⟩
  rw [hkk] at hk
  refine ⟨(r : Int) + (ps.length : Int) * k, ?_⟩
  have hres : res ps.length ((r : Int) + (ps.length : Int) * k) = r := by
    have := res_small hr
    unfold res at this ⊢
    rw [Int.add_mul_emod_self_left]
    exact this
  unfold omN ptOf
  rw [hres, hq]
  exact hk.symm
/-- By an other map that is one to one each number is behind a step from some number. -/
theorem one_back {ps : List Pt} (h : omB ps = true) (h1 : oneB ps = true) (n : Int) : ∃ x, omN ps x = n := by
  simp only [oneB, Bool.and_eq_true, decide_eq_true_eq] at h1
  obtain ⟨a, ha, e⟩ := in_some (l := (imL ps).reverse) (fun a ha => by
    rw [List.mem_reverse, mem_imL] at ha
    obtain ⟨r, hr, rfl⟩ := ha
    exact imAt_ok h hr) h1.1 h1.2 n
  rw [List.mem_reverse, mem_imL] at ha
  obtain ⟨r, hr, rfl⟩ := ha
  exact in_image h hr e
/-- A number behind a step is in the image of its residue. -/
theorem image_in {ps : List Pt} (h : omB ps = true) (x : Int) : omN ps x % (imAt ps (res ps.length x)).2 = (imAt ps (res ps.length x)).1 := by
  have hok := ptOf_ok h x
  have hr := res_cast x (omB_len h).1
  have e : x = (res ps.length x : Int) + (ps.length : Int) * (x / ps.length) := by
    have := Int.mul_ediv_add_emod x ps.length
    omega
  have e2 := pbh_step hok (x / ps.length)
  rw [← e] at e2
  unfold imAt imP omN
  show pbh (ptOf ps x) x % imMod (ptOf ps x) ps.length = pbh (ptOf ps x) (res ps.length x) % imMod (ptOf ps x) ps.length
  rw [e2, Int.add_mul_emod_self_left]
/-- .. and from just one. -/
theorem free_at : ∀ {l : List (Int × Int)}, freeI l = true → ∀ (i j : Nat) (a b : Int × Int), i < j → l[i]? = some a → l[j]? = some b → meetB a b = false
  | [], _, i, j, a, b, _, h, _ => by simp at h
  | c :: l, h, i, j, a, b, hij, hi, hj => by
    simp only [freeI, Bool.and_eq_true, List.all_eq_true, Bool.not_eq_true'] at h
    cases i with
    | zero =>
      obtain rfl : c = a := by simpa using hi
      obtain ⟨k, rfl⟩ : ∃ k, j = k + 1 := ⟨j - 1, by omega⟩
      rw [List.getElem?_cons_succ] at hj
      exact h.2 b (List.mem_of_getElem? hj)
    | succ i =>
      obtain ⟨k, rfl⟩ : ∃ k, j = k + 1 := ⟨j - 1, by omega⟩
      rw [List.getElem?_cons_succ] at hi hj
      exact free_at h.1 i k a b (by omega) hi hj
theorem meet_comm (a b : Int × Int) : meetB a b = meetB b a := by
  unfold meetB
  rw [Int.gcd_comm, Bool.eq_iff_iff]
  simp only [decide_eq_true_eq]
  rw [← Int.dvd_iff_emod_eq_zero, ← Int.dvd_iff_emod_eq_zero]
  constructor
  · intro h
    rw [show b.1 - a.1 = -(a.1 - b.1) by omega]
    exact Int.dvd_neg.2 h
  · intro h
    rw [show a.1 - b.1 = -(b.1 - a.1) by omega]
    exact Int.dvd_neg.2 h
theorem one_only {ps : List Pt} (h : omB ps = true) (h1 : oneB ps = true) {x y : Int} (e : omN ps x = omN ps y) : res ps.length x = res ps.length y := by
  simp only [oneB, Bool.and_eq_true, decide_eq_true_eq] at h1
  have hx := image_in h x
  have hy := image_in h y
  rw [← e] at hy
  have hlx := res_lt x (omB_len h).1
  have hly := res_lt y (omB_len h).1
  have key : ∀ i j, i < j → j < ps.length → meetB (imAt ps j) (imAt ps i) = false := by
    intro i j hij hj
    refine free_at h1.1 (ps.length - 1 - j) (ps.length - 1 - i) _ _ (by omega) ?_ ?_
    · rw [List.getElem?_reverse (by rw [imL_length]; omega), imL_length, show ps.length - 1 - (ps.length - 1 - j) = j by omega]
      simp [imL, hj]
    · rw [List.getElem?_reverse (by rw [imL_length]; omega), imL_length, show ps.length - 1 - (ps.length - 1 - i) = i by omega]
      simp [imL, show i < ps.length by omega]
  have hm := emod_sub_gcd hx hy
  have hmt : meetB (imAt ps (res ps.length x)) (imAt ps (res ps.length y)) = true := by
    unfold meetB
    rw [decide_eq_true_eq]
    exact hm
  rcases Nat.lt_trichotomy (res ps.length x) (res ps.length y) with hlt | heq | hgt
  · rw [meet_comm, key _ _ hlt hly] at hmt
    cases hmt
  · exact heq
  · rw [key _ _ hgt hlx] at hmt
    cases hmt
theorem omN_inj {ps : List Pt} (h : omB ps = true) {x y : Int} (hr : res ps.length x = res ps.length y) (e : omN ps x = omN ps y) : x = y := by
  have hx := Int.mul_ediv_cancel' (Int.dvd_of_emod_eq_zero (om_whole h x))
  have hy := Int.mul_ediv_cancel' (Int.dvd_of_emod_eq_zero (om_whole h y))
  have hi := ptIn_iff.1 (ptOf_in h x)
  have hq : ptOf ps x = ptOf ps y := by unfold ptOf; rw [hr]
  unfold omN pbh at e
  rw [hq] at hx e hi
  rw [e, hy] at hx
  exact Int.eq_of_mul_eq_mul_left (show (ptOf ps y).1 ≠ 0 by omega) (by omega)
/-- What is just behind one step: the list has it alone. -/
theorem one_list {ps : List Pt} (h : omB ps = true) (h1 : oneB ps = true) (n : Int) : ∃ x, bfO ps n = [x] := by
  obtain ⟨x, hx⟩ := one_back h h1 n
  refine ⟨x, ?_⟩
  have hmem := (mem_bfO h).2 hx
  have hr : res ps.length x < ps.length := res_lt x (omB_len h).1
  have hfn : ∀ r ∈ List.range ps.length, r ≠ res ps.length x → bfAt (ps.getD r pt0) r ps.length n = none := by
    intro r hrr hne
    rw [List.mem_range] at hrr
    cases hb : bfAt (ps.getD r pt0) r ps.length n with
    | none => rfl
    | some y =>
      exfalso
      have hi := ptIn_iff.1 (ptOk_iff.1 (omB_at h hrr)).1
      have h2 := ((bfAt_eq hi.1).1 hb).2
      have hy : omN ps y = n := (mem_bfO h).1 (List.mem_filterMap.2 ⟨r, List.mem_range.2 hrr, hb⟩)
      have hry : res ps.length y = r := by unfold res; rw [h2]; omega
      have := one_only h h1 (hx.trans hy.symm)
      omega
  have hsx : bfAt (ps.getD (res ps.length x) pt0) (res ps.length x) ps.length n = some x := by
    obtain ⟨r, hrr, hb⟩ := List.mem_filterMap.1 hmem
    by_cases e : r = res ps.length x
    · rw [← e]; exact hb
    · rw [hfn r hrr e] at hb; cases hb
  unfold bfO
  clear hmem hx
  have gen : ∀ K, K ≤ ps.length → (List.range K).filterMap (fun r => bfAt (ps.getD r pt0) r ps.length n) = if res ps.length x < K then [x] else [] := by
    intro K
    induction K with
    | zero => intro _; rfl
    | succ K ih =>
      intro hK
      rw [List.range_succ, List.filterMap_append, ih (by omega)]
      by_cases e : K = res ps.length x
      · rw [if_neg (by omega), if_pos (by omega)]
        simp only [List.filterMap_cons, List.filterMap_nil, e, hsx, List.nil_append]
      · have := hfn K (List.mem_range.2 (by omega)) e
        simp only [List.filterMap_cons, List.filterMap_nil, this, List.append_nil]
        by_cases e2 : res ps.length x < K
        · rw [if_pos e2, if_pos (by omega)]
        · rw [if_neg e2, if_neg (by omega)]
  rw [gen _ (Nat.le_refl _), if_pos hr]
/-- The one before. -/
def prv (ps : List Pt) (n : Int) : Int := (bfO ps n).getD 0 0
theorem prv_list {ps : List Pt} (h : omB ps = true) (h1 : oneB ps = true) (n : Int) : bfO ps n = [prv ps n] := by
  obtain ⟨x, hx⟩ := one_list h h1 n
  unfold prv
  rw [hx]
  rfl
end Go.Proofs.Ytbhmplccjaijjaa
