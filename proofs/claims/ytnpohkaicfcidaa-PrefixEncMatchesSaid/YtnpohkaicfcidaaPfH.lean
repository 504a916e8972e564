/- Package prefixenc: Read. -/
import Derived.Test.YtnpohkaicfcidaaPfG
import Derived.Test.YtnpohkaicfcidaaPeW
import Derived.Deep.DeepMust
set_option linter.unusedVariables false
set_option linter.unusedSimpArgs false
namespace Go.Proofs.Ytnpohkaicfcidaa
open Go.RowKit Go.Maps

theorem fndL_16 {l : List Int} (h : VL l) (c : Int) : fndL l c 16 258 = none := by
  cases e : fndL l c 16 258 with
  | none => rfl
  | some t =>
    obtain ⟨_, _, t3, _⟩ := fndL_is l _ _ 258 t e
    have := h.small t
    omega
/-- Fifteen bits that are no code. -/
theorem rdS_15 {l : List Int} (h : VL l) (c : Int) (out : List Int) : ∀ bs, rdS l c 15 out bs = none
  | [] => by rw [rdS_end, if_pos (by omega)]
  | b :: bs => rdS_far l c 15 out b bs (fndL_16 h _) (by omega)
/-- While bits are read: the word begun lies in block gw, the symbols so far are out. -/
structure RdK (w4 : World) (gw : Nat) (c k : Int) (A : Option Nat) (cc : Nat) (out : List Int) (wr : World) : Prop where
  wd : wr.heap[gw]? = some (.cells #[.int .u32 c, .int .i64 k] 60 (0, 0))
  new : NewO w4 wr A cc out
  ge : w4.heap.size ≤ gw
section
variable {w4 wr w' : World} {gw cc : Nat} {c k : Int} {A : Option Nat} {out : List Int}
theorem RdK.c0 (h : RdK w4 gw c k A cc out wr) : wr.cell? ⟨gw, 0, none⟩ = some (.int .u32 c) := by simp [World.cell?, h.wd]
theorem RdK.c1 (h : RdK w4 gw c k A cc out wr) : wr.cell? ⟨gw, 1, none⟩ = some (.int .i64 k) := by simp [World.cell?, h.wd]
theorem RdK.f (h : RdK w4 gw c k A cc out wr) (i : Nat) : wr.frozen? ⟨gw, i, none⟩ = false := by simp [World.frozen?, h.wd]
theorem RdK.lt (h : RdK w4 gw c k A cc out wr) : gw < wr.heap.size := (Array.getElem?_eq_some_iff.1 h.wd).1
theorem RdK.ne (h : RdK w4 gw c k A cc out wr) : A ≠ some gw := by
  rintro rfl
  obtain ⟨cur, h1, _⟩ := h.new.own.row
  rw [h.wd] at h1
  injection h1 with h1
  injection h1 with _ h1 _
  revert h1
  decide
theorem RdK.on (h : RdK w4 gw c k A cc out wr) (hb : Below wr.heap.size wr w') : RdK w4 gw c k A cc out w' := ⟨heap_on hb h.wd, h.new.on hb, h.ge⟩
theorem RdK.drew (h : RdK w4 gw c k A cc out wr) : RdK w4 gw c k A cc out wr.drew := h.on ⟨rfl, rfl, rfl, Nat.le_refl _, fun _ _ => rfl⟩
theorem RdK.set0 (h : RdK w4 gw c k A cc out wr) (c' : Int) : RdK w4 gw c' k A cc out (wr.setCell ⟨gw, 0, none⟩ (.int .u32 c')) :=
  ⟨set0of2 h.wd, ⟨h.new.own.ch ((Ch.refl (fun j => j = gw) wr).setCell _ _ (.inl rfl)) (fun g e e2 => h.ne (by rw [e, e2])), h.new.new, h.new.bel.setCell h.ge _⟩, h.ge⟩
theorem RdK.set1 (h : RdK w4 gw c k A cc out wr) (k' : Int) : RdK w4 gw c k' A cc out (wr.setCell ⟨gw, 1, none⟩ (.int .i64 k')) :=
  ⟨set1of2 h.wd, ⟨h.new.own.ch ((Ch.refl (fun j => j = gw) wr).setCell _ _ (.inl rfl)) (fun g e e2 => h.ne (by rw [e, e2])), h.new.new, h.new.bel.setCell h.ge _⟩, h.ge⟩
theorem RdK.app {A' : Option Nat} {c' : Nat} {out' : List Int} (h : RdK w4 gw c k A cc out wr) (h1 : OwnS w' .i64 3 A' c' out') (h2 : wr.grownBy w' A) (h3 : A' = A ∨ A' = some wr.heap.size) : RdK w4 gw c k A' c' out' w' :=
  ⟨(h2.block gw h.lt (fun e => h.ne e.symm)).trans h.wd, h.new.app h1 h2 h3, h.ge⟩
theorem RdK.alloc (h : RdK w4 gw c k A cc out wr) (o : Obj) : RdK w4 gw c k A cc out (wr.alloc o) := h.on ((Below.refl _ _).alloc (Nat.le_refl _) _)
end
end Go.Proofs.Ytnpohkaicfcidaa
