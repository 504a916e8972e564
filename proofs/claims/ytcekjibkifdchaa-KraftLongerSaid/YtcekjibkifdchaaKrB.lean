/- Boxes of lengths, whose elements are stored one by one. -/
import Derived.Test.YtcekjibkifdchaaKrS
import Derived.Test.YtcekjibkifdchaaKrN
import Derived.Test.YtcekjibkifdchaaKrC
import Derived.Test.YtcekjibkifdchaaKrDr
set_option linter.unusedVariables false
set_option linter.unusedSimpArgs false
namespace Go.Proofs.Ytcekjibkifdchaa
open Go.RowKit

theorem below_al (w : World) (o : Obj) : Below w.heap.size w (w.alloc o) := (Below.refl _ _).alloc (Nat.le_refl _) o
theorem wpList_store8 {ops : Array Oper} {rest : List Oper} {o : Oper} {a : Act} {w : World} {Q : Exit → Act → World → Prop} (hgd : o.guard = none) (x y : Operand) (ho : o.op = .store 5 x y) (hd : o.dst = none)
    (g i : Nat) (l : List Int) (hl : Lng l) (hi : i < 258) (t : TypeId) (hg : w.heap[g]? = some (.cells (lg l) t (0, 0))) (hx : a.eval x = .pointer (some ⟨g, i, none⟩)) (z : Int) (hy : a.eval y = .int .u8 z)
    (h : wpList Try.prog ops Q rest a (w.setCell ⟨g, i, none⟩ (.int .u8 z))) : wpList Try.prog ops Q (o :: rest) a w := by
  refine wpList_plain hgd fun K hK => ?_
  have hfz : w.frozen? ⟨g, i, none⟩ = false := frozen_of_row w g i _ _ hg
  have hcl := lg_cell hg hl i hi
  have hs : (Try.prog.info? 5).map (·.size) = some 1 := by kernel_rfl
  cases hq : Try.prog.info? 5 with
  | none => simp [hq] at hs
  | some j =>
    have hj : j.size = 1 := by simpa [hq] using hs
    have hst : (storeVar 5 ⟨g, i, none⟩ (.int .u8 z)).run Try.prog w = .ok () (w.setCell ⟨g, i, none⟩ (.int .u8 z)) := by
      simp [storeVar, sizeOf, typeInfo, hq, hj, hfz, hcl, Value.cells, storeCells, go_sem]
    unfold Oper.wp execOp
    simp only [ho, hx, hy, Instr.storeAt, Instr.sureAddr, Sem.run_bind, Sem.run_pure, Result.andThen_ok, hst]
    exact hK _ _ (by rw [hd]; exact h)
theorem wpList_store64 {ops : Array Oper} {rest : List Oper} {o : Oper} {a : Act} {w : World} {Q : Exit → Act → World → Prop} (hgd : o.guard = none) (x y : Operand) (ho : o.op = .store 3 x y) (hd : o.dst = none)
    (g i : Nat) (l : List Int) (hl : Tal l) (hi : i < 258) (t : TypeId) (hg : w.heap[g]? = some (.cells (tl l) t (0, 0))) (hx : a.eval x = .pointer (some ⟨g, i, none⟩)) (z : Int) (hy : a.eval y = .int .i64 z)
    (h : wpList Try.prog ops Q rest a (w.setCell ⟨g, i, none⟩ (.int .i64 z))) : wpList Try.prog ops Q (o :: rest) a w := by
  refine wpList_plain hgd fun K hK => ?_
  have hfz : w.frozen? ⟨g, i, none⟩ = false := frozen_of_row w g i _ _ hg
  have hcl := tl_cell hg hl i hi
  have hs : (Try.prog.info? 3).map (·.size) = some 1 := by kernel_rfl
  cases hq : Try.prog.info? 3 with
  | none => simp [hq] at hs
  | some j =>
    have hj : j.size = 1 := by simpa [hq] using hs
    have hst : (storeVar 3 ⟨g, i, none⟩ (.int .i64 z)).run Try.prog w = .ok () (w.setCell ⟨g, i, none⟩ (.int .i64 z)) := by
      simp [storeVar, sizeOf, typeInfo, hq, hj, hfz, hcl, Value.cells, storeCells, go_sem]
    unfold Oper.wp execOp
    simp only [ho, hx, hy, Instr.storeAt, Instr.sureAddr, Sem.run_bind, Sem.run_pure, Result.andThen_ok, hst]
    exact hK _ _ (by rw [hd]; exact h)

/-- A new box of lengths. -/
structure L1 (x : World) (l : List Int) (w : World) : Prop where
  lng : Lng l
  row : w.heap[x.heap.size]? = some (.cells (lg l) 23 (0, 0))
  bel : Below x.heap.size x w
theorem L1.new (x : World) {l : List Int} (h : Lng l) : L1 x l (x.alloc (.cells (lg l) 23)) := ⟨h, heap_alloc_last _ _, below_al _ _⟩
theorem L1.st {ops : Array Oper} {rest : List Oper} {o : Oper} {a : Act} {x w : World} {Q : Exit → Act → World → Prop} {l : List Int} (hb : L1 x l w) (hgd : o.guard = none) (p y : Operand) (ho : o.op = .store 5 p y) (hd : o.dst = none)
    (i : Nat) (hi : i < 258) (hx : a.eval p = .pointer (some ⟨x.heap.size, i, none⟩)) (z : Int) (hz : (Lit.int .u8 z).wf = true) (hy : a.eval y = .int .u8 z)
    (h : ∀ w', L1 x (l.set i z) w' → wpList Try.prog ops Q rest a w') : wpList Try.prog ops Q (o :: rest) a w :=
  wpList_store8 hgd p y ho hd _ i l hb.lng hi _ hb.row hx z hy (h _ ⟨hb.lng.set i z hz, by rw [heap_setCell_same _ _ _ _ _ _ hb.row, lg_set], hb.bel.setCell (by simp) _⟩)
/-- A new box of a tally. -/
structure T1 (x : World) (l : List Int) (w : World) : Prop where
  tal : Tal l
  row : w.heap[x.heap.size]? = some (.cells (tl l) 25 (0, 0))
  bel : Below x.heap.size x w
theorem T1.new (x : World) {l : List Int} (h : Tal l) : T1 x l (x.alloc (.cells (tl l) 25)) := ⟨h, heap_alloc_last _ _, below_al _ _⟩
theorem T1.st {ops : Array Oper} {rest : List Oper} {o : Oper} {a : Act} {x w : World} {Q : Exit → Act → World → Prop} {l : List Int} (hb : T1 x l w) (hgd : o.guard = none) (p y : Operand) (ho : o.op = .store 3 p y) (hd : o.dst = none)
    (i : Nat) (hi : i < 258) (hx : a.eval p = .pointer (some ⟨x.heap.size, i, none⟩)) (z : Int) (hz : (Lit.int .i64 z).wf = true) (hy : a.eval y = .int .i64 z)
    (h : ∀ w', T1 x (l.set i z) w' → wpList Try.prog ops Q rest a w') : wpList Try.prog ops Q (o :: rest) a w :=
  wpList_store64 hgd p y ho hd _ i l hb.tal hi _ hb.row hx z hy (h _ ⟨hb.tal.set i z hz, by rw [heap_setCell_same _ _ _ _ _ _ hb.row, tl_set], hb.bel.setCell (by simp) _⟩)
/-- Four new boxes of lengths. -/
structure W4 (w : World) (p q r s : List Int) (v : World) : Prop where
  lp : Lng p
  lq : Lng q
  lr : Lng r
  ls : Lng s
  a : v.heap[w.heap.size]? = some (.cells (lg p) 23 (0, 0))
  b : v.heap[w.heap.size + 1]? = some (.cells (lg q) 23 (0, 0))
  c : v.heap[w.heap.size + 1 + 1]? = some (.cells (lg r) 23 (0, 0))
  d : v.heap[w.heap.size + 1 + 1 + 1]? = some (.cells (lg s) 23 (0, 0))
  bel : Below w.heap.size w v
theorem W4.on {w v v' : World} {p q r s : List Int} (h : W4 w p q r s v) (hb : Below v.heap.size v v') : W4 w p q r s v' :=
  ⟨h.lp, h.lq, h.lr, h.ls, heap_on hb h.a, heap_on hb h.b, heap_on hb h.c, heap_on hb h.d, h.bel.trans (hb.mono h.bel.size)⟩
theorem W4.new (w : World) {p : List Int} (h : Lng p) : W4 w p p p p ((((w.alloc (.cells (lg p) 23)).alloc (.cells (lg p) 23)).alloc (.cells (lg p) 23)).alloc (.cells (lg p) 23)) := by
  have h1 := heap_alloc_last w (.cells (lg p) 23)
  have b1 := below_al w (.cells (lg p) 23)
  have z1 : (w.alloc (.cells (lg p) 23)).heap.size = w.heap.size + 1 := by simp
  generalize w.alloc (.cells (lg p) 23) = w1 at h1 b1 z1 ⊢
  have h2 := heap_alloc_last w1 (.cells (lg p) 23)
  have b2 := below_al w1 (.cells (lg p) 23)
  have z2 : (w1.alloc (.cells (lg p) 23)).heap.size = w1.heap.size + 1 := by simp
  generalize w1.alloc (.cells (lg p) 23) = w2 at h2 b2 z2 ⊢
  have h3 := heap_alloc_last w2 (.cells (lg p) 23)
  have b3 := below_al w2 (.cells (lg p) 23)
  have z3 : (w2.alloc (.cells (lg p) 23)).heap.size = w2.heap.size + 1 := by simp
  generalize w2.alloc (.cells (lg p) 23) = w3 at h3 b3 z3 ⊢
  have h4 := heap_alloc_last w3 (.cells (lg p) 23)
  have b4 := below_al w3 (.cells (lg p) 23)
  generalize w3.alloc (.cells (lg p) 23) = w4 at h4 b4 ⊢
  rw [z1] at h2
  rw [z2, z1] at h3
  rw [z3, z2, z1] at h4
  exact ⟨h, h, h, h, heap_on b4 (heap_on b3 (heap_on b2 h1)), heap_on b4 (heap_on b3 h2), heap_on b4 h3, h4, ((b1.trans (b2.mono b1.size)).trans (b3.mono (b1.trans (b2.mono b1.size)).size)).trans (b4.mono ((b1.trans (b2.mono b1.size)).trans (b3.mono (b1.trans (b2.mono b1.size)).size)).size)⟩
theorem W4.st_a {ops : Array Oper} {rest : List Oper} {o : Oper} {a : Act} {w v : World} {Q : Exit → Act → World → Prop} {p q r s : List Int} (hb : W4 w p q r s v) (hgd : o.guard = none) (x y : Operand) (ho : o.op = .store 5 x y) (hd : o.dst = none)
    (i : Nat) (hi : i < 258) (hx : a.eval x = .pointer (some ⟨w.heap.size, i, none⟩)) (z : Int) (hz : (Lit.int .u8 z).wf = true) (hy : a.eval y = .int .u8 z)
    (h : ∀ v', W4 w (p.set i z) q r s v' → wpList Try.prog ops Q rest a v') : wpList Try.prog ops Q (o :: rest) a v :=
  wpList_store8 hgd x y ho hd _ i p hb.lp hi _ hb.a hx z hy (h _ ⟨hb.lp.set i z hz, hb.lq, hb.lr, hb.ls, by rw [heap_setCell_same _ _ _ _ _ _ hb.a, lg_set], by rw [heap_setCell_other _ _ _ _ (by simp <;> omega)]; exact hb.b, by rw [heap_setCell_other _ _ _ _ (by simp <;> omega)]; exact hb.c, by rw [heap_setCell_other _ _ _ _ (by simp <;> omega)]; exact hb.d, hb.bel.setCell (by simp <;> omega) _⟩)
theorem W4.st_b {ops : Array Oper} {rest : List Oper} {o : Oper} {a : Act} {w v : World} {Q : Exit → Act → World → Prop} {p q r s : List Int} (hb : W4 w p q r s v) (hgd : o.guard = none) (x y : Operand) (ho : o.op = .store 5 x y) (hd : o.dst = none)
    (i : Nat) (hi : i < 258) (hx : a.eval x = .pointer (some ⟨w.heap.size + 1, i, none⟩)) (z : Int) (hz : (Lit.int .u8 z).wf = true) (hy : a.eval y = .int .u8 z)
    (h : ∀ v', W4 w p (q.set i z) r s v' → wpList Try.prog ops Q rest a v') : wpList Try.prog ops Q (o :: rest) a v :=
  wpList_store8 hgd x y ho hd _ i q hb.lq hi _ hb.b hx z hy (h _ ⟨hb.lp, hb.lq.set i z hz, hb.lr, hb.ls, by rw [heap_setCell_other _ _ _ _ (by simp <;> omega)]; exact hb.a, by rw [heap_setCell_same _ _ _ _ _ _ hb.b, lg_set], by rw [heap_setCell_other _ _ _ _ (by simp <;> omega)]; exact hb.c, by rw [heap_setCell_other _ _ _ _ (by simp <;> omega)]; exact hb.d, hb.bel.setCell (by simp <;> omega) _⟩)
theorem W4.st_c {ops : Array Oper} {rest : List Oper} {o : Oper} {a : Act} {w v : World} {Q : Exit → Act → World → Prop} {p q r s : List Int} (hb : W4 w p q r s v) (hgd : o.guard = none) (x y : Operand) (ho : o.op = .store 5 x y) (hd : o.dst = none)
    (i : Nat) (hi : i < 258) (hx : a.eval x = .pointer (some ⟨w.heap.size + 1 + 1, i, none⟩)) (z : Int) (hz : (Lit.int .u8 z).wf = true) (hy : a.eval y = .int .u8 z)
    (h : ∀ v', W4 w p q (r.set i z) s v' → wpList Try.prog ops Q rest a v') : wpList Try.prog ops Q (o :: rest) a v :=
  wpList_store8 hgd x y ho hd _ i r hb.lr hi _ hb.c hx z hy (h _ ⟨hb.lp, hb.lq, hb.lr.set i z hz, hb.ls, by rw [heap_setCell_other _ _ _ _ (by simp <;> omega)]; exact hb.a, by rw [heap_setCell_other _ _ _ _ (by simp <;> omega)]; exact hb.b, by rw [heap_setCell_same _ _ _ _ _ _ hb.c, lg_set], by rw [heap_setCell_other _ _ _ _ (by simp <;> omega)]; exact hb.d, hb.bel.setCell (by simp <;> omega) _⟩)
theorem W4.st_d {ops : Array Oper} {rest : List Oper} {o : Oper} {a : Act} {w v : World} {Q : Exit → Act → World → Prop} {p q r s : List Int} (hb : W4 w p q r s v) (hgd : o.guard = none) (x y : Operand) (ho : o.op = .store 5 x y) (hd : o.dst = none)
    (i : Nat) (hi : i < 258) (hx : a.eval x = .pointer (some ⟨w.heap.size + 1 + 1 + 1, i, none⟩)) (z : Int) (hz : (Lit.int .u8 z).wf = true) (hy : a.eval y = .int .u8 z)
    (h : ∀ v', W4 w p q r (s.set i z) v' → wpList Try.prog ops Q rest a v') : wpList Try.prog ops Q (o :: rest) a v :=
  wpList_store8 hgd x y ho hd _ i s hb.ls hi _ hb.d hx z hy (h _ ⟨hb.lp, hb.lq, hb.lr, hb.ls.set i z hz, by rw [heap_setCell_other _ _ _ _ (by simp <;> omega)]; exact hb.a, by rw [heap_setCell_other _ _ _ _ (by simp <;> omega)]; exact hb.b, by rw [heap_setCell_other _ _ _ _ (by simp <;> omega)]; exact hb.c, by rw [heap_setCell_same _ _ _ _ _ _ hb.d, lg_set], hb.bel.setCell (by simp <;> omega) _⟩)
/-! A literal of three lengths. -/
noncomputable def lngIe : TypeInfo := (Try.prog.info? 23).get (by kernel_rfl)
theorem lg_cells (l : List Int) : (Value.agg (lg l)).cells = lg l := rfl
theorem flat_src (w : World) (q : List (List Int)) (h : ∀ l ∈ q, Lng l) :
    LSrc (w.alloc (.cells ((q.map fun l => Value.agg (lg l)).flatMap fun v => v.cells.toList).toArray 23)) (some ⟨w.heap.size, 0, none⟩) q := by
  refine ⟨h, .inr ⟨w.heap.size, 0, rfl, fun i hi j v hv => ?_⟩⟩
  simp only [World.cell?, heap_alloc_last, Nat.zero_add]
  rw [List.getElem?_toArray, Great.flat_get (s := 258) (by omega)]
  · have hT : Lng (q.getD i []) := by
      rw [List.getD_eq_getElem?_getD, List.getElem?_eq_getElem hi, Option.getD_some]
      exact h _ (List.getElem_mem hi)
    have hj : j < 258 := by
      have := (List.getElem?_eq_some_iff.1 hv).1
      rw [Array.length_toList, lg_size hT] at this
      exact this
    rw [show (i * 258 + j) / 258 = i by omega, show (i * 258 + j) % 258 = j by omega, List.getElem?_map, List.getElem?_eq_getElem hi]
    rw [List.getD_eq_getElem?_getD, List.getElem?_eq_getElem hi, Option.getD_some] at hv
    simpa [Value.cells] using hv
  · intro v hv
    rw [List.mem_map] at hv
    obtain ⟨l, hl, rfl⟩ := hv
    rw [lg_cells]
    exact lg_size (h l hl)
theorem wp_lngs3 {o : Oper} {a : Act} {w : World} {K : Act → World → Prop} {Q : Exit → Act → World → Prop} (x y z : Operand) (ho : o.op = .buildSlice 26 3 #[(0, x), (1, y), (2, z)])
    (A B C : List Int) (hA : Lng A) (hB : Lng B) (hC : Lng C) (hx : a.eval x = .agg (lg A)) (hy : a.eval y = .agg (lg B)) (hz : a.eval z = .agg (lg C))
    (h : ∀ cells, LSrc (w.alloc (.cells cells 23)) (some ⟨w.heap.size, 0, none⟩) [A, B, C] → K (a.put o.dst (.slice (some ⟨w.heap.size, 0, none⟩) 3 3)) (w.alloc (.cells cells 23))) : o.wp Try.prog a w K Q := by
  have hs : lngIe.size = 258 := by kernel_rfl
  have hzr : (lngIe.zero.isSome) = true := by kernel_rfl
  obtain ⟨zv, hzv⟩ := Option.isSome_iff_exists.1 hzr
  have hall : ∀ l ∈ [A, B, C], Lng l := fun l hl => by
    simp only [List.mem_cons, List.not_mem_nil, or_false] at hl
    rcases hl with rfl | rfl | rfl <;> assumption
  refine wp_buildSlice 26 23 3 _ ho _ lngIe zv Try.underlying26 (by kernel_rfl) hzv (by rw [hs]; omega) (by rw [hs]; omega) ?_ (h _ (flat_src w [A, B, C] hall))
  rw [hs]
  have e : (#[(0, x), (1, y), (2, z)].map fun (i, x) => (i, a.eval x)).toList = (([A, B, C].map fun l => Value.agg (lg l)).zipIdx 0).map fun x => (x.2, x.1) := by
    simp [hx, hy, hz]
  rw [e]
  refine Great.fill_whole (s := 258) (by omega) _ _ (fun v hv => ?_) (by simp)
  rw [List.mem_map] at hv
  obtain ⟨l, hl, rfl⟩ := hv
  rw [lg_cells]
  exact lg_size (hall l hl)
end Go.Proofs.Ytcekjibkifdchaa
