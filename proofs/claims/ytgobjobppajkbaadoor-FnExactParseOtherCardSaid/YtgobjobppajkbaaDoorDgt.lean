/-
  NUMBERS AS TEXTS: 'l1Num' of the model, whatever the number; the text of a machine.
-/
import Derived.Test.YtgobjobppajkbaaDoorText
import Derived.Test.YtgobjobppajkbaaDoorMaM
import Derived.Deep.RegionLaw
import Derived.IntWalk
import Derived.Shelf.Strings.OnBuilder
namespace Go.Proofs.YtgobjobppajkbaaDoor
open Go.RowKit
set_option linter.unusedVariables false

/-- The digit of a number below ten. -/
def dg8 (n : Nat) : UInt8 := UInt8.ofNat (48 + n)
theorem dd_one {n : Nat} (h : n < 10) : Lib.decDigits n = [dg8 n] := by rw [Lib.decDigits, dif_pos h]; rfl
theorem dd_more {n : Nat} (h : ¬ n < 10) : Lib.decDigits n = Lib.decDigits (n / 10) ++ [dg8 (n % 10)] := by rw [Lib.decDigits, dif_neg h]; rfl
theorem dd_len : ∀ (k n : Nat), n < 10 ^ (k + 1) → (Lib.decDigits n).length ≤ k + 1 := by
  intro k
  induction k with
  | zero => intro n h; rw [dd_one (by simpa using h)]; simp
  | succ k ih =>
    intro n h
    by_cases h1 : n < 10
    · rw [dd_one h1]; simp
    · rw [dd_more h1, List.length_append]
      have := ih (n / 10) (by rw [Nat.pow_succ] at h; omega)
      simp
      omega
theorem dig_byte {n : Nat} (h : n < 10) : ((dg8 n).toNat : Int) = 48 + (n : Int) := by
  unfold dg8
  rw [UInt8.toNat_ofNat_of_lt' (by show _ < 256; omega)]
  omega
theorem conv_one (w : World) (d : UInt8) (m : Int) (hm : (d.toNat : Int) = m) {s : Nat} (hs : w.heap.size = s) :
    (convert 128 9 (.slice (some ⟨s, 0, none⟩) 1 1)).run Tryd.prog (w.alloc (.cells #[.int .u8 m] 5)) = .ok (.string (byt [d])) (w.alloc (.cells #[.int .u8 m] 5)) := by
  subst hs
  have := run_convert_bytes_back (P := Tryd.prog) (w.alloc (.cells #[.int .u8 m] 5)) 128 9 5 ⟨w.heap.size, 0, none⟩ 1 [d] Tryd.underlying128 Tryd.underlying5 Tryd.underlying9 (fun i hi => by
    obtain rfl : i = 0 := by simpa using hi
    have e : (⟨w.heap.size, 0, none⟩ : Addr).add 0 = ⟨w.heap.size, 0, none⟩ := by simp [Addr.add]
    rw [e]
    show _ = some (Value.int .u8 (d.toNat : Int))
    rw [hm]
    go_simp)
  exact this
theorem conv_at (W : World) (d : UInt8) (m : Int) (hm : (d.toNat : Int) = m) (s : Nat) (hc : W.cell? ⟨s, 0, none⟩ = some (.int .u8 m)) :
    (convert 128 9 (.slice (some ⟨s, 0, none⟩) 1 1)).run Tryd.prog W = .ok (.string (byt [d])) W := by
  have := run_convert_bytes_back (P := Tryd.prog) W 128 9 5 ⟨s, 0, none⟩ 1 [d] Tryd.underlying128 Tryd.underlying5 Tryd.underlying9 (fun i hi => by
    obtain rfl : i = 0 := by simpa using hi
    have e : (⟨s, 0, none⟩ : Addr).add 0 = ⟨s, 0, none⟩ := by simp [Addr.add]
    rw [e, hc, ← hm]
    rfl)
  exact this
theorem new8 (w : World) (m : Int) : (w.alloc (.cells #[.int .u8 m] 5)).cell? ⟨w.heap.size, 0, none⟩ = some (.int .u8 m) := by go_simp
/-- The text of fraction number i. -/
def frT (ns ds : List Int) (i : Nat) : List UInt8 := Lib.decDigits (ns.getD i 0).toNat ++ [47] ++ Lib.decDigits (ds.getD i 0).toNat
/-- The text of the first j fractions. -/
def mcT (ns ds : List Int) (j : Nat) : List UInt8 := Lib.join ((List.range j).map (frT ns ds)) [44]
theorem join_snoc (xs : List (List UInt8)) (x sep : List UInt8) (h : xs ≠ []) : Lib.join (xs ++ [x]) sep = Lib.join xs sep ++ sep ++ x := by
  match xs, h with
  | a :: r, _ =>
    rw [List.cons_append, Lib.join_cons, Lib.join_cons]
    simp [Lib.joinTail]
theorem mcT_zero (ns ds : List Int) : mcT ns ds 0 = [] := rfl
theorem mcT_one (ns ds : List Int) : mcT ns ds 1 = frT ns ds 0 := by simp [mcT, List.range_succ, Lib.join_one]
theorem mcT_succ (ns ds : List Int) {j : Nat} (h : 0 < j) : mcT ns ds (j + 1) = mcT ns ds j ++ [44] ++ frT ns ds j := by
  unfold mcT
  rw [List.range_succ, List.map_append]
  exact join_snoc _ _ _ (by obtain ⟨k, rfl⟩ : ∃ k, j = k + 1 := ⟨j - 1, by omega⟩; simp [List.range_succ])
theorem frT_len {ns ds : List Int} {i : Nat} (h1 : ns.getD i 0 ≤ 100000) (h2 : ds.getD i 0 ≤ 100000) : (frT ns ds i).length ≤ 13 := by
  unfold frT
  have := dd_len 5 (ns.getD i 0).toNat (by omega)
  have := dd_len 5 (ds.getD i 0).toNat (by omega)
  simp only [List.length_append, List.length_cons, List.length_nil]
  omega
theorem mcT_len {ns ds : List Int} {K : Nat} (h1 : ∀ i, i < K → ns.getD i 0 ≤ 100000) (h2 : ∀ i, i < K → ds.getD i 0 ≤ 100000) : ∀ j, j ≤ K → (mcT ns ds j).length ≤ 14 * j := by
  intro j
  induction j with
  | zero => intro _; simp [mcT_zero]
  | succ j ih =>
    intro hj
    have := frT_len (h1 j (by omega)) (h2 j (by omega))
    rcases Nat.eq_zero_or_pos j with rfl | hp
    · rw [mcT_one]; omega
    · rw [mcT_succ ns ds hp]
      have := ih (by omega)
      simp only [List.length_append, List.length_cons, List.length_nil]
      omega

theorem below_al (w : World) (X : Obj) : Below w.heap.size w (w.alloc X) := (Below.refl w.heap.size w).alloc (Nat.le_refl _) X
set_option maxRecDepth 100000 in
set_option maxHeartbeats 2000000 in
theorem l1Num_step (n : Nat) (hn : n < 10000000000000) (ih : ∀ m, m < n → ∀ w, Calls Tryd.prog 95 #[.int .i64 (m : Int)] w fun e w' => e = .returned (.string (byt (Lib.decDigits m))) ∧ Below w.heap.size w w') (w : World) :
    Calls Tryd.prog 95 #[.int .i64 (n : Int)] w fun e w' => e = .returned (.string (byt (Lib.decDigits n))) ∧ Below w.heap.size w w' := by
  by_cases h1 : n < 10
  · rw [dd_one h1]
    have hlt : (n : Int) < 10 := by omega
    have hconv := conv_one w (dg8 n) (48 + (n : Int)) (dig_byte h1) rfl
    clear ih
    go_enter Tryd.func95, Tryd.ntmps95
    go_wp2_with fail
    go_ret
    exact ⟨rfl, (Below.refl w.heap.size w).alloc (Nat.le_refl _) _⟩
  · have HE := Lib.hid (dd_more h1)
    have hlt : ¬ (n : Int) < 10 := by omega
    have HC0 : Hid (∀ (x : Int), x = ((n / 10 : Nat) : Int) → ∀ w, Calls Tryd.prog 95 #[.int .i64 x] w fun e w' => e = .returned (.string (byt (Lib.decDigits (n / 10)))) ∧ Below w.heap.size w w') := Lib.hid (fun x hx => hx ▸ ih (n / 10) (by omega))
    have hlen := dd_len 12 (n / 10) (by omega)
    have hdv : (n : Int) / 10 = ((n / 10 : Nat) : Int) := by omega
    have hmd : (n : Int) % 10 = ((n % 10 : Nat) : Int) := by omega
    have hd9 := dig_byte (n := n % 10) (by omega)
    have hm9 : n % 10 < 10 := by omega
    have hq9 : n / 10 < 10000000000000 := by omega
    generalize n / 10 = q at *
    generalize n % 10 = r at *
    have HQQ := Lib.hid hdv
    have HR9 := Lib.hid hm9
    have c1 := conv_at (w.alloc (.cells #[.int .u8 (48 + (r : Int))] 5)) (dg8 r) _ hd9 w.heap.size (new8 w _)
    have c2 := conv_at (w.drew.alloc (.cells #[.int .u8 (48 + (r : Int))] 5)) (dg8 r) _ hd9 w.heap.size (new8 w _)
    have c3 := conv_at (w.alloc (.cells #[.int .u8 (48 + (r : Int))] 5)).drew (dg8 r) _ hd9 w.heap.size (new8 w _)
    have c4 := conv_at (w.drew.alloc (.cells #[.int .u8 (48 + (r : Int))] 5)).drew (dg8 r) _ hd9 w.heap.size (new8 w _)
    have HCV := Lib.hid (fun W s hc => conv_at W (dg8 r) _ hd9 s hc)
    have HD9 := Lib.hid hd9
    clear hd9
    have hadd : ∀ w, (Op.stringOp .add (byt (Lib.decDigits q)) (byt [dg8 r])).run Tryd.prog w = .ok (.string (byt (Lib.decDigits q ++ [dg8 r]))) w := fun w => byt_add _ _ (by simp; omega) w
    have hq1 : (n : Int).tdiv 10 = (q : Int) := by rw [Int.tdiv_eq_ediv_of_nonneg (by omega), hdv]
    have hr1 : (n : Int).tmod 10 = (r : Int) := by rw [Int.tmod_eq_emod_of_nonneg (by omega), hmd]
    have hw1 : IntKind.i64.wrap (q : Int) = (q : Int) := IntWalk.i64_in _ (by omega)
    have hw4 : IntKind.u8.wrap (48 + (r : Int)) = 48 + (r : Int) := by
      have h9 := HR9.out
      rcases (show r = 0 ∨ r = 1 ∨ r = 2 ∨ r = 3 ∨ r = 4 ∨ r = 5 ∨ r = 6 ∨ r = 7 ∨ r = 8 ∨ r = 9 by omega) with rfl | rfl | rfl | rfl | rfl | rfl | rfl | rfl | rfl | rfl <;> rfl
    have hw3 : IntKind.i64.wrap (48 + (r : Int)) = 48 + (r : Int) := IntWalk.i64_in _ (by omega)
    clear ih h1
    go_enter Tryd.func95, Tryd.ntmps95
    go_wp2_with fail
    go_region_law (go_simp; go_at_call 95; refine (HC0.out _ (by first | rfl | exact HQQ.out | (have := HQQ.out; omega)) _).mono ?_; rintro e w3 ⟨rfl, hb3⟩; have HB3 : Hid (Below w.heap.size w w3) := Lib.hid (by first | exact hb3 | exact (Below.refl _ _).drew.trans hb3 | exact ((below_al w _).trans (hb3.mono (by simp))) | exact ((below_al w _).drew.trans (hb3.mono (by simp))) | exact (((Below.refl _ _).drew.trans (below_al _ _)).trans (hb3.mono (by simp))) | exact (((Below.refl _ _).drew.trans (below_al _ _)).drew.trans (hb3.mono (by simp)))); first | (have hk : w3.cell? ⟨w.heap.size, 0, none⟩ = some (.int .u8 (48 + (r : Int))) := (hb3.cell (p := ⟨w.heap.size, 0, none⟩) (by simp)).trans (new8 w _); have c5 := HCV.out w3 _ hk; have c6 := HCV.out w3.drew _ hk) | (have c5 := HCV.out (w3.alloc (.cells #[.int .u8 (48 + (r : Int))] 5)) _ (new8 w3 _); have c6 := HCV.out (w3.drew.alloc (.cells #[.int .u8 (48 + (r : Int))] 5)) _ (new8 w3 _); have c7 := HCV.out (w3.alloc (.cells #[.int .u8 (48 + (r : Int))] 5)).drew _ (new8 w3 _); have c8 := HCV.out (w3.drew.alloc (.cells #[.int .u8 (48 + (r : Int))] 5)).drew _ (new8 w3 _)); clear hb3)
    all_goals
      go_wp2_with fail
      go_ret
      refine ⟨ret_byt (by rw [HE.out]), ?_⟩
      first
        | exact HB3.out
        | exact HB3.out.drew
        | exact HB3.out.drew.drew
        | exact HB3.out.trans ((below_al _ _).mono HB3.out.size)
        | exact HB3.out.drew.trans ((below_al _ _).mono HB3.out.size)
        | exact (HB3.out.trans ((below_al _ _).mono HB3.out.size)).drew
        | exact (HB3.out.drew.trans ((below_al _ _).mono HB3.out.size)).drew
theorem l1Num_all : ∀ (K n : Nat), n < K → n < 10000000000000 → ∀ w, Calls Tryd.prog 95 #[.int .i64 (n : Int)] w fun e w' => e = .returned (.string (byt (Lib.decDigits n))) ∧ Below w.heap.size w w' := by
  intro K
  induction K with
  | zero => intro n h; omega
  | succ K ih => intro n h1 h2 w; exact l1Num_step n h2 (fun m hm w => ih m (by omega) (by omega) w) w
end Go.Proofs.YtgobjobppajkbaaDoor
