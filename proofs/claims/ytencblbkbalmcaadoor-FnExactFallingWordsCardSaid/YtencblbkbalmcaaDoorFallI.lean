/-
  'FallingWords' of the program.
-/
import Derived.Test.YtencblbkbalmcaaDoorPat
import Derived.Test.YtencblbkbalmcaaDoorStrs
import Derived.Test.YtencblbkbalmcaaDoorCountF
namespace Go.Proofs.YtencblbkbalmcaaDoor
open Go.RowKit
set_option linter.unusedVariables false

/-- The words of some patterns. -/
def fwL (L : Nat) (ps : List Nat) : List ByteArray := ps.map fun x => wby (patP x L L)
theorem fwL_length (L : Nat) (ps : List Nat) : (fwL L ps).length = ps.length := by simp [fwL]
theorem fwL_take {L j : Nat} {ps : List Nat} (h : j < ps.length) : fwL L (ps.take (j + 1)) = fwL L (ps.take j) ++ [wby (patP (ps.getD j 0) L L)] := by
  unfold fwL
  rw [List.take_succ_eq_append_getElem h, List.map_append, List.getD_eq_getElem?_getD, List.getElem?_eq_getElem h]
  rfl
/-- Are there a map and a length, here of at most 8? -/
def askF (t p k : Int) : Bool := goodB t p && inB k 0 8
/-- The falling words of a length. -/
def fwX (t p k : Int) : List ByteArray := if askF t p k = true then fwL k.toNat (pats (fls t k.toNat) (2 ^ k.toNat)) else []
theorem fwX_no {t p k : Int} (h : askF t p k = false) : fwX t p k = [] := by rw [fwX, if_neg (by simp [h])]
theorem fwX_len (t p k : Int) : (fwX t p k).length ≤ 900 := by
  unfold fwX
  split
  · rename_i h
    simp only [askF, inB, Bool.and_eq_true, decide_eq_true_eq] at h
    rw [fwL_length]
    have h1 := pats_len_le (fls t k.toNat) (2 ^ k.toNat)
    have h2 : 2 ^ k.toNat ≤ 2 ^ 8 := Nat.pow_le_pow_right (by decide) (by omega)
    omega
  · simp
theorem infoS : (Tryd.prog.info? 9).map (fun i => (i.zero, i.size, i.bytes)) = some (some (.string ⟨#[]⟩), 1, 16) := by kernel_rfl
theorem retS_none {xs : List ByteArray} {ok : Bool} {w w' : World} (hx : xs = []) (ho : ok = false) (hb : Below w.heap.size w w') : RetStrs xs ok w (.returned (.tuple #[.slice none 0 0, .bool false])) w' := by
  subst hx ho
  exact ⟨_, rfl, World.ownsRow_nil _ _ _ _, hb⟩
theorem retS_some {xs : List ByteArray} {ok : Bool} {w w' : World} {v : Value} (hr : StrsAt w' w.heap.size v xs) (ho : ok = true) (hb : Below w.heap.size w w') : RetStrs xs ok w (.returned (.tuple #[v, .bool true])) w' := by
  subst ho
  exact ⟨v, rfl, hr, hb⟩

set_option maxRecDepth 100000 in
set_option maxHeartbeats 4000000 in
theorem iFalling_yes (t p : Int) (L : Nat) (w : World) (hg : goodB t p = true) (hL : L ≤ 8) (htab : Tab w) :
    Calls Tryd.prog 15 #[.agg #[.int .i64 t, .int .i64 p], .int .i64 (L : Int)] w (RetStrs (fwL L (pats (fls t L) (2 ^ L))) true w) := by
  have HM := Lib.hid (fun w => isMap_any t p w)
  rw [hg] at HM
  have HT := Lib.hid htab
  have HF := Lib.hid (fun w h => fallPats_any t p L w hg (by omega) h)
  have hd0 : decide ((L : Int) < 0) = false := by simp
  have hd1 : decide (8 < (L : Int)) = false := by simp; omega
  have hN : 2 ^ L ≤ 256 := by
    have : 2 ^ L ≤ 2 ^ 8 := Nat.pow_le_pow_right (by decide) hL
    omega
  have hps : ∀ x ∈ pats (fls t L) (2 ^ L), x ≤ 256 := fun x hx => by
    simp only [pats, List.mem_filter, List.mem_range] at hx; omega
  have hpl := pats_len_le (fls t L) (2 ^ L)
  unfold ptL at HF
  generalize pats (fls t L) (2 ^ L) = ps at HF hps hpl ⊢
  have HPS := Lib.hid hps
  have hpl2 : ps.length ≤ 256 := by omega
  obtain ⟨i0, hi, hi0, hi1, hi2⟩ := info_parts infoS
  clear hg htab hps hpl hN
  go_enter Tryd.func15, Tryd.ntmps15
  go_wp2_with fail
  refine (HM.out _).mono ?_
  rintro e w1 ⟨rfl, hb1⟩
  obtain ⟨c0, c1, hz, hb⟩ := map_block hb1
  have HTB := Lib.hid (tab_below HT.out hb (Nat.le_refl _))
  clear hb1
  go_wp2_with fail
  refine (HF.out _ HTB.out).mono ?_
  rintro e w2 ⟨v, rfl, hv, hb2⟩
  have HB2 := Lib.hid (hb.trans (hb2.mono (Nat.le_of_lt hz)))
  have hsz2 := (hb.trans (hb2.mono (Nat.le_of_lt hz))).size
  clear hb2 hb c0 c1
  rcases hv.cases with ⟨rfl, hnil⟩ | ⟨g, cap, rfl, hg1, hg2, hml, hrow⟩
  · have hnil2 : ps = [] := by simpa using hnil
    subst hnil2
    clear hnil hv
    go_wp2_with fail
    refine wp_loop_rounds 1 ?_
    rw [rounds_succ]
    go_wp2_with fail
    go_ret2
    exact retS_some (World.ownsRow_nil _ _ _ _) rfl HB2.out
  · have HROW := Lib.hid hrow
    have hlen : (ps.map fun (x : Nat) => (x : Int)).length = ps.length := by simp
    rw [hlen] at hml ⊢
    obtain ⟨M, hM⟩ : ∃ M, M = ps.length := ⟨_, rfl⟩
    rw [← hM] at hml hpl2 ⊢
    have HML := Lib.hid hM
    have hMi : (M : Int) ≤ 256 := by omega
    clear hrow hv hlen hM
    go_wp2_with fail
    go_loopw [6, 24] (fun v x wr => ∃ j : Nat, j ≤ M ∧ x = .int .i64 j ∧ wr.ownsRow w2.heap.size 9 1 v j ((fwL L (ps.take j)).map Value.string) ∧ Below w2.heap.size w2 wr) (fun _ x _ => M - (intOf x).toNat)
    case atStart => exact ⟨0, by omega, rfl, World.ownsRow_nil _ _ _ _, Below.refl _ _⟩
    case round =>
      obtain ⟨j, hj, rfl, hown, hbr⟩ := hrel
      have HO := Lib.hid hown
      have HBR := Lib.hid hbr
      have hszr := hbr.size
      by_cases hlt : j < M
      · have hjM : (j : Int) < (M : Int) := by omega
        have hlt2 : j < ps.length := by rw [← HML.out]; exact hlt
        have q : wr.cell? ⟨g, j, none⟩ = some (.int .i64 ((ps.getD j 0 : Nat) : Int)) := by
          rw [hbr.cell (p := ⟨g, j, none⟩) hg2, (HROW.out j (by simpa using hlt2)).1]
          simp [List.getD_eq_getElem?_getD, hlt2]
        have HTK := Lib.hid (fwL_take (L := L) hlt2)
        have hx : ps.getD j 0 ≤ 256 := HPS.out _ (by rw [List.getD_eq_getElem?_getD, List.getElem?_eq_getElem hlt2]; exact List.getElem_mem _)
        have HS := Lib.hid (fun w => signsOfPattern_any (ps.getD j 0) L w (by omega) (by omega))
        generalize ps.getD j 0 = x at q HTK hx HS
        have hxi : (x : Int) ≤ 256 := by omega
        have hj3 : j + 1 ≤ maxLen := by unfold maxLen; omega
        clear hown hbr hlt2
        go_wp2_with fail
        refine (HS.out _).mono ?_
        rintro e w3 ⟨rfl, hb3⟩
        have HO3 := Lib.hid (ownsRow_kept HO.out hb3)
        have HB3 := Lib.hid (HBR.out.trans (hb3.mono hszr))
        have hsz3 := (HBR.out.trans (hb3.mono hszr)).size
        clear hb3 q
        go_wp2_with (at_builtin; refine wpList_append_own _ rfl _ _ 29 rfl w2.heap.size 9 i0 (.string ⟨#[]⟩) 1 16 Tryd.underlying29 hi hi0 hi1 hi2 rfl (by decide) _ _ _ rfl (HO3.out.alloc _) ⟨w3.heap.size, 0, none⟩ 1 1 [.string (wby (patP x L L))] rfl rfl ?c1 ?c2 ?c3 ?c4 ?c5 ?_; rotate_right; intro v' w4 hown4 hgrow _)
        case c1 => exact fun j u hu => new_cell _ _ _ hu
        case c2 => simp [Value.oneCell']
        case c3 => exact hj3
        case c4 => omega
        case c5 => simp; omega
        have hbg : Below w2.heap.size w3 w4 := ((Below.refl w2.heap.size w3).alloc (by omega) _).grown hgrow (by simp; omega) (fun k e => (HO3.out.lt k e).1)
        refine ⟨⟨j + 1, hlt, by go_num, ?_, HB3.out.trans hbg⟩, by simp [intOf]; omega⟩
        rw [HTK.out, List.map_append]
        exact hown4
      · obtain rfl : j = M := by omega
        have hjj : ¬ ((j : Int) < (j : Int)) := by omega
        have HTK : Hid (ps.take j = ps) := Lib.hid (by rw [HML.out]; exact List.take_length)
        clear hown hbr
        go_wp2_with fail
        go_ret2
        refine retS_some ?_ rfl (HB2.out.trans (HBR.out.mono hsz2))
        have ho := ownsRow_base HO.out (B' := w.heap.size) hsz2
        rw [HTK.out] at ho
        unfold StrsAt
        rw [fwL_length, ← HML.out]
        exact ho
end Go.Proofs.YtencblbkbalmcaaDoor
