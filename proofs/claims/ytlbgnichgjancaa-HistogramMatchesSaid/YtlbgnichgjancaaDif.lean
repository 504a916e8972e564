/- Different: a map with tallies as keys; a slice of tallies. -/
import Derived.Test.YtlbgnichgjancaaHgA
import Derived.Deep.MidRow
import Derived.MapKept
import Derived.ChangeMaps5
import Derived.Great.BuildSlice
set_option linter.unusedVariables false
set_option linter.unusedSimpArgs false
namespace Go.Proofs.Ytlbgnichgjancaa
open Go.RowKit

theorem talLaw : WideMaps.KeyLaw Try.prog 23 := deep_law (m := 2) (by omega) tal_keyAt tal_tiled tal_wide
/-- Block b is a map whose keys are the tallies ks, in the order in which they came. -/
def MapT (b : Nat) (ks : List (List Int)) (w : World) : Prop := (∀ l ∈ ks, Tal l) ∧ ∃ es clock, w.heap[b]? = some (.map es clock) ∧ es.toList.map (·.key) = ks.map (fun l => Value.agg (tl l))
theorem MapT.ch {S : Nat → Prop} {b : Nat} {ks : List (List Int)} {w w' : World} (h : MapT b ks w) (hc : Ch S w w') (hn : ¬ S b) : MapT b ks w' := by
  obtain ⟨ht, es, clock, hb, hk⟩ := h
  exact ⟨ht, es, clock, hc.heap hb hn, hk⟩
theorem MapT.on {b : Nat} {ks : List (List Int)} {w w' : World} (h : MapT b ks w) (hb : Below w.heap.size w w') : MapT b ks w' := h.ch (Ch.of_below (S := fun _ => False) hb) (fun e => e)
theorem MapT.new (w : World) : MapT w.heap.size [] (w.alloc (.map #[] 0)) := ⟨fun l hl => by simp at hl, #[], 0, heap_alloc_new w _, rfl⟩
/-- The keys behind one more. -/
def addK (ks : List (List Int)) (l : List Int) : List (List Int) := if l ∈ ks then ks else ks ++ [l]
theorem modify_key (es : List MapEntry) (j : Nat) (key val : Value) (e : MapEntry) (he : es[j]? = some e) (hk : e.key = key) : (es.modify j (fun e => { e with key := key, val := val })).map (·.key) = es.map (·.key) := by
  apply List.ext_getElem?
  intro i
  rw [List.getElem?_map, List.getElem?_map, List.getElem?_modify]
  by_cases e1 : j = i
  · subst e1
    rw [he]
    simp [hk]
  · simp [e1]
theorem MapT.put {b : Nat} {ks : List (List Int)} {w : World} (h : MapT b ks w) {l : List Int} (hl : Tal l) :
    ∃ w', (Instr.mapUpdate 47 (.map (some b)) (.agg (tl l)) (.bool true)).run Try.prog w = .ok () w' ∧ MapT b (addK ks l) w' ∧ Ch (fun k => k = b) w w' := by
  obtain ⟨ht, es, clock, hb, hk⟩ := h
  obtain ⟨lx, hx⟩ := tal_key l hl
  have hu : Try.prog.underlying 47 = some (.map 23 4) := Try.underlying47
  have hall : ∀ e ∈ es.toList, ∃ ly, keyOf Try.prog 23 e.key = some ly := fun e he => by
    have : e.key ∈ es.toList.map (·.key) := List.mem_map_of_mem he
    rw [hk, List.mem_map] at this
    obtain ⟨m, hm, e2⟩ := this
    rw [← e2]
    exact tal_key m (ht m hm)
  have hch : ∀ o, Ch (fun k => k = b) w (ChangeMaps.setBlock w b o) := fun o => ⟨rfl, rfl, rfl, by simp [ChangeMaps.setBlock], fun k _ hne => ChangeMaps.heap_setBlock_other hb _ hne⟩
  rcases talLaw.find w hx es.toList hall with ⟨h1, h2⟩ | ⟨j, e0, h1, h2, h3⟩
  · have hn : l ∉ ks := fun hm => by
      have : Value.agg (tl l) ∈ es.toList.map (·.key) := by rw [hk]; exact List.mem_map_of_mem hm
      rw [List.mem_map] at this
      obtain ⟨e, he, e2⟩ := this
      exact h2 e he e2
    refine ⟨ChangeMaps.setBlock w b (.map (es.push ⟨.agg (tl l), .bool true, clock⟩) (clock + 1)), ?_, ⟨?_, _, _, ChangeMaps.heap_setBlock_same hb _, ?_⟩, hch _⟩
    · simp [Instr.mapUpdate, run_underlying hu, MapKept.run_getObj_map hb, talLaw.check w false hx, h1, MapKept.run_setObj_map _ hb, Result.andThen, ChangeMaps.setBlock]
    · rw [addK, if_neg hn]
      intro m hm
      rcases List.mem_append.1 hm with hm | hm
      · exact ht m hm
      · rw [List.mem_singleton] at hm
        subst hm
        exact hl
    · rw [addK, if_neg hn, Array.toList_push, List.map_append, List.map_append, hk]
      rfl
  · have hm : l ∈ ks := by
      have hm : e0.key ∈ es.toList.map (·.key) := List.mem_map_of_mem (List.mem_of_getElem? h2)
      rw [hk, List.mem_map] at hm
      obtain ⟨m, hm, e2⟩ := hm
      rw [h3] at e2
      injection e2 with e2
      rw [← tl_inj e2]
      exact hm
    have hj : es[j]? = some e0 := by simpa using h2
    refine ⟨ChangeMaps.setBlock w b (.map (es.modify j fun e => { e with key := .agg (tl l), val := .bool true }) clock), ?_, ⟨?_, _, _, ChangeMaps.heap_setBlock_same hb _, ?_⟩, hch _⟩
    · simp [Instr.mapUpdate, run_underlying hu, MapKept.run_getObj_map hb, talLaw.check w false hx, h1, hj, h3, talLaw.stays w hx, MapKept.run_setObj_map _ hb, Result.andThen, ChangeMaps.setBlock]
    · rw [addK, if_pos hm]
      exact ht
    · rw [addK, if_pos hm, ← hk, Array.toList_modify]
      exact modify_key _ _ _ _ _ h2 h3

/-- A slice of tallies in memory. -/
def TSrc (w : World) (sp : Option Addr) (q : List (List Int)) : Prop := (∀ l ∈ q, Tal l) ∧ (q = [] ∨ ∃ g o, sp = some ⟨g, o, none⟩ ∧ ∀ i, i < q.length → w.rangeAt g (o + i * 258) (tl (q.getD i [])).toList)
theorem TSrc.on {w w' : World} {sp : Option Addr} {q : List (List Int)} (h : TSrc w sp q) (hb : Below w.heap.size w w') : TSrc w' sp q := by
  obtain ⟨ht, rfl | ⟨g, o, e, hr⟩⟩ := h
  · exact ⟨ht, .inl rfl⟩
  · exact ⟨ht, .inr ⟨g, o, e, fun i hi j v hv => cell_on hb (hr i hi j v hv)⟩⟩
theorem TSrc.get {w : World} {sp : Option Addr} {q : List (List Int)} (h : TSrc w sp q) {i : Nat} (hi : i < q.length) : ∃ g o, sp = some ⟨g, o, none⟩ ∧ w.rangeAt g (o + i * 258) (tl (q.getD i [])).toList ∧ Tal (q.getD i []) := by
  obtain ⟨ht, rfl | ⟨g, o, e, hr⟩⟩ := h
  · simp at hi
  · refine ⟨g, o, e, hr i hi, ?_⟩
    rw [List.getD_eq_getElem?_getD, List.getElem?_eq_getElem hi, Option.getD_some]
    exact ht _ (List.getElem_mem hi)
/-- The different ones, as they come. -/
def dst (q : List (List Int)) : List (List Int) := q.foldl addK []
theorem dst_step (q : List (List Int)) (k : Nat) (hk : k < q.length) : dst (q.take (k + 1)) = addK (dst (q.take k)) (q.getD k []) := by
  unfold dst
  rw [List.take_add_one, List.getElem?_eq_getElem hk, Option.toList_some, List.foldl_append, List.getD_eq_getElem?_getD, List.getElem?_eq_getElem hk]
  rfl
theorem dst_le (q : List (List Int)) : (dst q).length ≤ q.length := by
  have h : ∀ (q ks : List (List Int)), (q.foldl addK ks).length ≤ ks.length + q.length := by
    intro q
    induction q with
    | nil => intro ks; simp
    | cons a q ih =>
      intro ks
      have h1 := ih (addK ks a)
      have h2 : (addK ks a).length ≤ ks.length + 1 := by
        unfold addK
        split
        · omega
        · simp
      simp only [List.foldl_cons, List.length_cons]
      omega
  simpa [dst] using h q []

theorem wpList_mapPut {ops : Array Oper} {rest : List Oper} {o : Oper} {a : Act} {w : World} {Q : Exit → Act → World → Prop}
    (hg : o.guard = none) (m x v : Operand) (hop : o.op = Op.mapUpdate 47 m x v) (b : Nat) (ks : List (List Int)) (h : MapT b ks w) (l : List Int) (hl : Tal l)
    (hm : a.eval m = .map (some b)) (hx : a.eval x = .agg (tl l)) (hv : a.eval v = .bool true)
    (hK : ∀ w', MapT b (addK ks l) w' → Ch (fun k => k = b) w w' → wpList Try.prog ops Q rest (a.put o.dst undef) w') :
    wpList Try.prog ops Q (o :: rest) a w := by
  refine wpList_plain hg fun K' hK' => ?_
  obtain ⟨w', hrun, r1, r2⟩ := h.put hl
  unfold Oper.wp
  simp [execOp, hop, hm, hx, hv, hrun, Result.andThen]
  exact hK' _ _ (hK w' r1 r2)

set_option maxRecDepth 100000 in
set_option maxHeartbeats 1000000 in
theorem diff_call (sp : Option Addr) (n c : Nat) (q : List (List Int)) (w : World) (hl : q.length = n) (hs : TSrc w sp q) (hm : n ≤ 1000000) :
    Calls Try.prog 21 #[.slice sp n c] w fun e w' => e = .returned (.int .i64 (dst q).length) ∧ Below w.heap.size w w' := by
  have hmk : ∀ w : World, (Instr.makeMap 47 none).run Try.prog w = .ok (.map (some w.heap.size)) (w.alloc (.map #[] 0)) := fun w => by
    simp [Instr.makeMap, run_underlying Try.underlying47, Result.andThen]
  go_enter Try.func21, Try.ntmps21
  go_wp2_with fail
  have hM : MapT w.heap.size [] (w.alloc (.map #[] 0)) := MapT.new w
  have hb : Below w.heap.size w (w.alloc (.map #[] 0)) := (Below.refl _ _).alloc (Nat.le_refl _) _
  generalize w.alloc (.map #[] 0) = w1 at hM hb ⊢
  have HM := Lib.hid hM
  have HB := Lib.hid hb
  have HS := Lib.hid hs
  clear hM hb hmk hs
  go_loopw [9] (fun vi wr => ∃ k : Nat, k ≤ n ∧ vi = .int .i64 k ∧ MapT w.heap.size (dst (q.take k)) wr ∧ Below w.heap.size w wr) (fun vi _ => n - (intOf vi).toNat)
  case atStart => exact ⟨0, by omega, rfl, HM.out, HB.out⟩
  case round =>
    obtain ⟨k, hk, rfl, hM, hb⟩ := hrel
    have HM2 := Lib.hid hM
    have HB2 := Lib.hid hb
    clear hM hb
    by_cases hlt : k < n
    · obtain ⟨g, o, hspe, hr, hT⟩ := (HS.out.on HB2.out).get (i := k) (by omega)
      subst hspe
      have HST := Lib.hid (dst_step q k (by omega))
      have hz := talZ
      generalize q.getD k [] = l at hr hT HST
      go_upto_region 5 with (first
        | (refine wpList_load_mid rfl 23 _ rfl g (o + k * 258) rfl (tl l).toList _ hr Try.underlying23 rfl (by rw [Array.length_toList]; exact talIk hT) ?_)
        | (refine wpList_store_row rfl 23 _ _ rfl wr.heap.size (tl l) rfl rfl 23 (tl zT) (heap_alloc_last wr _) (talIk hT) (by rw [tl_size zT_tal, tl_size hT]) (tl_all _) ?_))
      rw [World.setRow_alloc_new]
      have hM3 := HM2.out.on ((Below.refl _ _).alloc (Nat.le_refl _) (.cells (tl l) 23))
      have hb3 := HB2.out.alloc HB2.out.size (.cells (tl l) 23)
      have hg3 := heap_alloc_last wr (.cells (tl l) 23)
      generalize wr.alloc (.cells (tl l) 23) = w3 at hM3 hb3 hg3 ⊢
      have HM3 := Lib.hid hM3
      have HB3 := Lib.hid hb3
      clear hM3 hb3 hz hr
      go_wp2_with (first
        | (refine wpList_load_row rfl 23 _ rfl wr.heap.size rfl 23 (tl l) (0, 0) _ hg3 Try.underlying23 rfl (talIk hT) ?_)
        | (refine wpList_mapPut rfl _ _ _ rfl w.heap.size _ HM3.out l hT rfl rfl rfl ?_; intro w4 hM4 hc4))
      exact ⟨⟨k + 1, by omega, by go_num, by rw [HST.out]; exact hM4, HB3.out.trans (hc4.below HB3.out.size (fun y e => by subst e; exact Nat.le_refl _))⟩, by simp [intOf]; omega⟩
    · obtain rfl : k = n := by omega
      obtain ⟨ht, es, clock, hbk, hkk⟩ := HM2.out
      have hsz : es.size = (dst q).length := by
        have h1 := congrArg List.length hkk
        rw [List.length_map, List.length_map, Array.length_toList, List.take_of_length_le (by omega)] at h1
        exact h1
      have HZ := Lib.hid hsz
      have HB4 := Lib.hid HB2.out
      have hlen : (Builtin.len_ #[47] 3 #[.map (some w.heap.size)]).run Try.prog wr = .ok (.int .i64 es.size) wr := by
        simp [Builtin.len_, run_underlying Try.underlying47, MapKept.run_getObj_map hbk, Result.andThen, goInt]
      clear hsz hkk ht
      go_wp2_with fail
      go_ret
      exact ⟨by rw [← HZ.out]; rfl, HB4.out⟩

/-! A literal of three tallies. -/
noncomputable def talIe : TypeInfo := (Try.prog.info? 23).get (by kernel_rfl)
theorem tl_cells (l : List Int) : (Value.agg (tl l)).cells = tl l := rfl
theorem flat_src (w : World) (q : List (List Int)) (h : ∀ l ∈ q, Tal l) :
    TSrc (w.alloc (.cells ((q.map fun l => Value.agg (tl l)).flatMap fun v => v.cells.toList).toArray 23)) (some ⟨w.heap.size, 0, none⟩) q := by
  refine ⟨h, .inr ⟨w.heap.size, 0, rfl, fun i hi j v hv => ?_⟩⟩
  simp only [World.cell?, heap_alloc_last, Nat.zero_add]
  rw [List.getElem?_toArray, Great.flat_get (s := 258) (by omega)]
  · have hT : Tal (q.getD i []) := by
      rw [List.getD_eq_getElem?_getD, List.getElem?_eq_getElem hi, Option.getD_some]
      exact h _ (List.getElem_mem hi)
    have hj : j < 258 := by
      have := (List.getElem?_eq_some_iff.1 hv).1
      rw [Array.length_toList, tl_size hT] at this
      exact this
    rw [show (i * 258 + j) / 258 = i by omega, show (i * 258 + j) % 258 = j by omega, List.getElem?_map, List.getElem?_eq_getElem hi]
    rw [List.getD_eq_getElem?_getD, List.getElem?_eq_getElem hi, Option.getD_some] at hv
    simpa [Value.cells] using hv
  · intro v hv
    rw [List.mem_map] at hv
    obtain ⟨l, hl, rfl⟩ := hv
    rw [tl_cells]
    exact tl_size (h l hl)
theorem wp_tals3 {o : Oper} {a : Act} {w : World} {K : Act → World → Prop} {Q : Exit → Act → World → Prop} (x y z : Operand) (ho : o.op = .buildSlice 25 3 #[(0, x), (1, y), (2, z)])
    (A B C : List Int) (hA : Tal A) (hB : Tal B) (hC : Tal C) (hx : a.eval x = .agg (tl A)) (hy : a.eval y = .agg (tl B)) (hz : a.eval z = .agg (tl C))
    (h : ∀ cells, TSrc (w.alloc (.cells cells 23)) (some ⟨w.heap.size, 0, none⟩) [A, B, C] → K (a.put o.dst (.slice (some ⟨w.heap.size, 0, none⟩) 3 3)) (w.alloc (.cells cells 23))) : o.wp Try.prog a w K Q := by
  have hs : talIe.size = 258 := by kernel_rfl
  have hzr : (talIe.zero.isSome) = true := by kernel_rfl
  obtain ⟨zv, hzv⟩ := Option.isSome_iff_exists.1 hzr
  have hall : ∀ l ∈ [A, B, C], Tal l := fun l hl => by
    simp only [List.mem_cons, List.not_mem_nil, or_false] at hl
    rcases hl with rfl | rfl | rfl <;> assumption
  refine wp_buildSlice 25 23 3 _ ho _ talIe zv Try.underlying25 (by kernel_rfl) hzv (by rw [hs]; omega) (by rw [hs]; omega) ?_ (h _ (flat_src w [A, B, C] hall))
  rw [hs]
  have e : (#[(0, x), (1, y), (2, z)].map fun (i, x) => (i, a.eval x)).toList = (([A, B, C].map fun l => Value.agg (tl l)).zipIdx 0).map fun x => (x.2, x.1) := by
    simp [hx, hy, hz]
  rw [e]
  refine Great.fill_whole (s := 258) (by omega) _ _ (fun v hv => ?_) (by simp)
  rw [List.mem_map] at hv
  obtain ⟨l, hl, rfl⟩ := hv
  rw [tl_cells]
  exact tl_size (hall l hl)
end Go.Proofs.Ytlbgnichgjancaa
