/- How an argument that is a list of 256 bytes is opened. -/
import Derived.Test.YtaemmeofchonaaaMtA
import Derived.OpenShut
set_option linter.unusedVariables false
set_option linter.unusedSimpArgs false
namespace Go.Proofs.Ytaemmeofchonaaa
open Go.RowKit

theorem open_lst {H : Type} {enc : TypeId × Value → H} {w : World} {base : Nat} {spare : Nat → Bool} {held : Bool} {fuel : Nat} {cs : List Value} {x : DataW H × List MemPlace}
    (h : DataW.trod enc Try.prog w base spare held fuel 23 cs = some x) : ∃ l, cs = (ll l).toList ∧ Lst l := by
  obtain ⟨xs, m, rfl, rfl, hlen, hxl, hel⟩ := DataW.trod_array lstU h
  have hc : Try.prog.cellsOf 23 = 256 := by kernel_rfl
  have h1 : Try.prog.cellsOf 5 = 1 := by kernel_rfl
  rw [hc] at hlen
  rw [h1] at hel
  have hcell : ∀ i, i < 256 → ∃ a, cs[i]? = some (.int .u8 a) ∧ (Lit.int .u8 a).wf = true := fun i hi => by
    have e := hel i hi
    rw [List.getElem?_eq_getElem (by omega)] at e
    obtain ⟨a, ea, _, wa⟩ := DataW.trod_int u8U e
    refine ⟨a, ?_, wa⟩
    rw [Nat.mul_one, List.drop_eq_getElem_cons (by omega)] at ea
    simp only [List.take_succ_cons, List.take_zero, List.cons.injEq, and_true] at ea
    rw [List.getElem?_eq_getElem (by omega), ea]
  refine ⟨cs.map fun v => match v with | .int _ a => a | _ => 0, ?_, by rw [List.length_map]; exact hlen, fun z hz => ?_⟩
  · apply List.ext_getElem?
    intro i
    by_cases hi : i < 256
    · obtain ⟨a, e, _⟩ := hcell i hi
      have r : ∀ L : List Int, (ll L).toList[i]? = (L[i]?).map (Value.int .u8) := fun L => by rw [Array.getElem?_toList, ll, icells_get]
      rw [r, List.getElem?_map, e]
      rfl
    · rw [List.getElem?_eq_none (by omega), List.getElem?_eq_none (by rw [Array.length_toList, ll, icells_size, List.length_map]; omega)]
  · rw [List.mem_map] at hz
    obtain ⟨v, hv, rfl⟩ := hz
    obtain ⟨i, hi, rfl⟩ := List.getElem_of_mem hv
    obtain ⟨a, e, wa⟩ := hcell i (by omega)
    rw [List.getElem?_eq_getElem hi] at e
    injection e with e
    rw [e]
    exact wa
end Go.Proofs.Ytaemmeofchonaaa
