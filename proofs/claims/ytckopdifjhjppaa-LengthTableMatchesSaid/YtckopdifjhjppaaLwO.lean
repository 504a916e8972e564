/- How arguments that are lengths or states are opened. -/
import Derived.Test.YtckopdifjhjppaaTst
import Derived.OpenShut
set_option linter.unusedVariables false
set_option linter.unusedSimpArgs false
namespace Go.Proofs.Ytckopdifjhjppaa
open Go.RowKit

theorem open_lng {H : Type} {enc : TypeId × Value → H} {w : World} {base : Nat} {spare : Nat → Bool} {held : Bool} {fuel : Nat} {cs : List Value} {x : DataW H × List MemPlace}
    (h : DataW.trod enc Try.prog w base spare held fuel 23 cs = some x) : ∃ l, cs = (lg l).toList ∧ Lng l := by
  obtain ⟨xs, m, rfl, rfl, hlen, hxl, hel⟩ := DataW.trod_array lngU h
  have hc : Try.prog.cellsOf 23 = 258 := by kernel_rfl
  have h1 : Try.prog.cellsOf 5 = 1 := by kernel_rfl
  rw [hc] at hlen
  rw [h1] at hel
  have hcell : ∀ i, i < 258 → ∃ a, cs[i]? = some (.int .u8 a) ∧ (Lit.int .u8 a).wf = true := fun i hi => by
    have e := hel i hi
    rw [List.getElem?_eq_getElem (by omega)] at e
    obtain ⟨a, ea, _, wa⟩ := DataW.trod_int u8U e
    refine ⟨a, ?_, wa⟩
    rw [Nat.mul_one, List.drop_eq_getElem_cons (by omega)] at ea
    simp only [List.take_succ_cons, List.take_zero, List.cons.injEq, and_true] at ea
    rw [List.getElem?_eq_getElem (by omega), ea]
  refine ⟨cs.map fun v => match v with | .int _ a => a | _ => 0, ?_, by rw [List.length_map]; exact hlen, fun z hz => ?_⟩
  · apply List.ext_getElem?
    intro i
    by_cases hi : i < 258
    · obtain ⟨a, e, _⟩ := hcell i hi
      have r : ∀ L : List Int, (lg L).toList[i]? = (L[i]?).map (Value.int .u8) := fun L => by rw [Array.getElem?_toList, lg, icells_get]
      rw [r, List.getElem?_map, e]
      rfl
    · rw [List.getElem?_eq_none (by omega), List.getElem?_eq_none (by rw [Array.length_toList, lg, icells_size, List.length_map]; omega)]
  · rw [List.mem_map] at hz
    obtain ⟨v, hv, rfl⟩ := hz
    obtain ⟨i, hi, rfl⟩ := List.getElem_of_mem hv
    obtain ⟨a, e, wa⟩ := hcell i (by omega)
    rw [List.getElem?_eq_getElem hi] at e
    injection e with e
    rw [e]
    exact wa

theorem open_tst {H : Type} {enc : TypeId × Value → H} {w : World} {base : Nat} {spare : Nat → Bool} {held : Bool} {fuel : Nat} {cs : List Value} {x : DataW H × List MemPlace}
    (h : DataW.trod enc Try.prog w base spare held fuel 25 cs = some x) : ∃ c : TS, cs = (tg c).toList ∧ Tst c := by
  obtain ⟨xs, m, _, _, hl, hx, hf⟩ := DataW.trod_struct Try.underlying25 h
  have k0 : Try.prog.cellsOf 25 = 262 := by kernel_rfl
  have k1 : Try.prog.cellsOf 23 = 258 := by kernel_rfl
  have k2 : Try.prog.cellsOf 3 = 1 := by kernel_rfl
  rw [k0] at hl
  have h0 : DataW.trod enc Try.prog w base spare held m 23 ((cs.drop 0).take (Try.prog.cellsOf 23)) = xs[0]? := hf 0 _ rfl
  have h1 : DataW.trod enc Try.prog w base spare held m 3 ((cs.drop 258).take (Try.prog.cellsOf 3)) = xs[1]? := hf 1 _ rfl
  have h2 : DataW.trod enc Try.prog w base spare held m 3 ((cs.drop 259).take (Try.prog.cellsOf 3)) = xs[2]? := hf 2 _ rfl
  have h3 : DataW.trod enc Try.prog w base spare held m 3 ((cs.drop 260).take (Try.prog.cellsOf 3)) = xs[3]? := hf 3 _ rfl
  have h4 : DataW.trod enc Try.prog w base spare held m 3 ((cs.drop 261).take (Try.prog.cellsOf 3)) = xs[4]? := hf 4 _ rfl
  rw [k1] at h0
  rw [k2] at h1 h2 h3 h4
  match xs, hx with
  | [x0, x1, x2, x3, x4], _ =>
    obtain ⟨l, hl0, hlw⟩ := open_lng h0
    obtain ⟨a1, e1, _, w1⟩ := DataW.trod_int intU h1
    obtain ⟨a2, e2, _, w2⟩ := DataW.trod_int intU h2
    obtain ⟨a3, e3, _, w3⟩ := DataW.trod_int intU h3
    obtain ⟨a4, e4, _, w4⟩ := DataW.trod_int intU h4
    have one : ∀ (j : Nat) (v : Value), (cs.drop j).take 1 = [v] → cs[j]? = some v := fun j v e => by
      have := congrArg (·[0]?) e
      simp only [List.getElem?_take, List.getElem?_drop] at this
      simpa using this
    refine ⟨⟨l, a1, a2, a3, a4⟩, ?_, ⟨hlw, w1, w2, w3, w4⟩⟩
    show cs = tgl ⟨l, a1, a2, a3, a4⟩
    apply List.ext_getElem?
    intro i
    by_cases hi : i < 258
    · have e := congrArg (·[i]?) hl0
      simp only [List.drop_zero, List.getElem?_take, if_pos hi] at e
      rw [e]
      unfold tgl
      rw [List.getElem?_append_left (by rw [List.length_map, hlw.1]; exact hi)]
      simp [lg, icells]
    · by_cases h5 : i < 262
      · have hc : i = 258 ∨ i = 259 ∨ i = 260 ∨ i = 261 := by omega
        unfold tgl
        rw [List.getElem?_append_right (by rw [List.length_map, hlw.1]; omega), List.length_map, hlw.1]
        rcases hc with rfl | rfl | rfl | rfl
        · exact one _ _ e1
        · exact one _ _ e2
        · exact one _ _ e3
        · exact one _ _ e4
      · rw [List.getElem?_eq_none (by omega), List.getElem?_eq_none (by rw [tgl_len (c := ⟨l, a1, a2, a3, a4⟩) hlw.1]; omega)]
end Go.Proofs.Ytckopdifjhjppaa
