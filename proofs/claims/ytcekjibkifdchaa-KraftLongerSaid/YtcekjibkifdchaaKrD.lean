/- Different: a map with lengths as keys; a slice of lengths. -/
import Derived.Test.YtcekjibkifdchaaKr
import Derived.Test.YtcekjibkifdchaaFrm2
import Derived.Deep.MidRow
import Derived.MapKept
import Derived.ChangeMaps5
import Derived.Great.BuildSlice
set_option linter.unusedVariables false
set_option linter.unusedSimpArgs false
namespace Go.Proofs.Ytcekjibkifdchaa
open Go.RowKit

theorem lngLaw : WideMaps.KeyLaw Try.prog 23 := deep_law (m := 2) (by omega) lng_keyAt lng_tiled lng_wide
/-- Block b is a map whose keys are the lengths ks, in the order in which they came. -/
def MapL (b : Nat) (ks : List (List Int)) (w : World) : Prop := (∀ l ∈ ks, Lng l) ∧ ∃ es clock, w.heap[b]? = some (.map es clock) ∧ es.toList.map (·.key) = ks.map (fun l => Value.agg (lg l))
theorem MapL.ch {S : Nat → Prop} {b : Nat} {ks : List (List Int)} {w w' : World} (h : MapL b ks w) (hc : Ch S w w') (hn : ¬ S b) : MapL b ks w' := by
  obtain ⟨ht, es, clock, hb, hk⟩ := h
  exact ⟨ht, es, clock, hc.heap hb hn, hk⟩
theorem MapL.on {b : Nat} {ks : List (List Int)} {w w' : World} (h : MapL b ks w) (hb : Below w.heap.size w w') : MapL b ks w' := h.ch (Ch.of_below (S := fun _ => False) hb) (fun e => e)
theorem MapL.new (w : World) : MapL w.heap.size [] (w.alloc (.map #[] 0)) := ⟨fun l hl => by simp at hl, #[], 0, heap_alloc_new w _, rfl⟩
/-- The keys behind one more. -/
def addK (ks : List (List Int)) (l : List Int) : List (List Int) := if l ∈ ks then ks else ks ++ [l]
theorem modify_key (es : List MapEntry) (j : Nat) (key val : Value) (e : MapEntry) (he : es[j]? = some e) (hk : e.key = key) : (es.modify j (fun e => { e with key := key, val := val })).map (·.key) = es.map (·.key) := by
  apply List.ext_getElem?
  intro i
  rw [List.getElem?_map, List.getElem?_map, List.getElem?_modify]
  by_cases e1 : j = i
  · subst e1
    rw [he]
    simp [hk]
  · simp [e1]
theorem MapL.put {b : Nat} {ks : List (List Int)} {w : World} (h : MapL b ks w) {l : List Int} (hl : Lng l) :
    ∃ w', (Instr.mapUpdate 40 (.map (some b)) (.agg (lg l)) (.bool true)).run Try.prog w = .ok () w' ∧ MapL b (addK ks l) w' ∧ Ch (fun k => k = b) w w' := by
  obtain ⟨ht, es, clock, hb, hk⟩ := h
  obtain ⟨lx, hx⟩ := lng_key l hl
  have hu : Try.prog.underlying 40 = some (.map 23 4) := Try.underlying40
  have hall : ∀ e ∈ es.toList, ∃ ly, keyOf Try.prog 23 e.key = some ly := fun e he => by
    have : e.key ∈ es.toList.map (·.key) := List.mem_map_of_mem he
    rw [hk, List.mem_map] at this
    obtain ⟨m, hm, e2⟩ := this
    rw [← e2]
    exact lng_key m (ht m hm)
  have hch : ∀ o, Ch (fun k => k = b) w (ChangeMaps.setBlock w b o) := fun o => ⟨rfl, rfl, rfl, by simp [ChangeMaps.setBlock], fun k _ hne => ChangeMaps.heap_setBlock_other hb _ hne⟩
  rcases lngLaw.find w hx es.toList hall with ⟨h1, h2⟩ | ⟨j, e0, h1, h2, h3⟩
  · have hn : l ∉ ks := fun hm => by
      have : Value.agg (lg l) ∈ es.toList.map (·.key) := by rw [hk]; exact List.mem_map_of_mem hm
      rw [List.mem_map] at this
      obtain ⟨e, he, e2⟩ := this
      exact h2 e he e2
    refine ⟨ChangeMaps.setBlock w b (.map (es.push ⟨.agg (lg l), .bool true, clock⟩) (clock + 1)), ?_, ⟨?_, _, _, ChangeMaps.heap_setBlock_same hb _, ?_⟩, hch _⟩
    · simp [Instr.mapUpdate, run_underlying hu, MapKept.run_getObj_map hb, lngLaw.check w false hx, h1, MapKept.run_setObj_map _ hb, Result.andThen, ChangeMaps.setBlock]
    · rw [addK, if_neg hn]
      intro m hm
      rcases List.mem_append.1 hm with hm | hm
      · exact ht m hm
      · rw [List.mem_singleton] at hm
        subst hm
        exact hl
    · rw [addK, if_neg hn, Array.toList_push, List.map_append, List.map_append, hk]
      rfl
  · have hm : l ∈ ks := by
      have hm : e0.key ∈ es.toList.map (·.key) := List.mem_map_of_mem (List.mem_of_getElem? h2)
      rw [hk, List.mem_map] at hm
      obtain ⟨m, hm, e2⟩ := hm
      rw [h3] at e2
      injection e2 with e2
      rw [← lg_inj e2]
      exact hm
    have hj : es[j]? = some e0 := by simpa using h2
    refine ⟨ChangeMaps.setBlock w b (.map (es.modify j fun e => { e with key := .agg (lg l), val := .bool true }) clock), ?_, ⟨?_, _, _, ChangeMaps.heap_setBlock_same hb _, ?_⟩, hch _⟩
    · simp [Instr.mapUpdate, run_underlying hu, MapKept.run_getObj_map hb, lngLaw.check w false hx, h1, hj, h3, lngLaw.stays w hx, MapKept.run_setObj_map _ hb, Result.andThen, ChangeMaps.setBlock]
    · rw [addK, if_pos hm]
      exact ht
    · rw [addK, if_pos hm, ← hk, Array.toList_modify]
      exact modify_key _ _ _ _ _ h2 h3

/-- A slice of lengths in memory. -/
def LSrc (w : World) (sp : Option Addr) (q : List (List Int)) : Prop := (∀ l ∈ q, Lng l) ∧ (q = [] ∨ ∃ g o, sp = some ⟨g, o, none⟩ ∧ ∀ i, i < q.length → w.rangeAt g (o + i * 258) (lg (q.getD i [])).toList)
theorem LSrc.on {w w' : World} {sp : Option Addr} {q : List (List Int)} (h : LSrc w sp q) (hb : Below w.heap.size w w') : LSrc w' sp q := by
  obtain ⟨ht, rfl | ⟨g, o, e, hr⟩⟩ := h
  · exact ⟨ht, .inl rfl⟩
  · exact ⟨ht, .inr ⟨g, o, e, fun i hi j v hv => cell_on hb (hr i hi j v hv)⟩⟩
theorem LSrc.get {w : World} {sp : Option Addr} {q : List (List Int)} (h : LSrc w sp q) {i : Nat} (hi : i < q.length) : ∃ g o, sp = some ⟨g, o, none⟩ ∧ w.rangeAt g (o + i * 258) (lg (q.getD i [])).toList ∧ Lng (q.getD i []) := by
  obtain ⟨ht, rfl | ⟨g, o, e, hr⟩⟩ := h
  · simp at hi
  · refine ⟨g, o, e, hr i hi, ?_⟩
    rw [List.getD_eq_getElem?_getD, List.getElem?_eq_getElem hi, Option.getD_some]
    exact ht _ (List.getElem_mem hi)
/-- The different ones, as they come. -/
def dst (q : List (List Int)) : List (List Int) := q.foldl addK []
theorem dst_step (q : List (List Int)) (k : Nat) (hk : k < q.length) : dst (q.take (k + 1)) = addK (dst (q.take k)) (q.getD k []) := by
  unfold dst
  rw [List.take_add_one, List.getElem?_eq_getElem hk, Option.toList_some, List.foldl_append, List.getD_eq_getElem?_getD, List.getElem?_eq_getElem hk]
  rfl
theorem dst_le (q : List (List Int)) : (dst q).length ≤ q.length := by
  have h : ∀ (q ks : List (List Int)), (q.foldl addK ks).length ≤ ks.length + q.length := by
    intro q
    induction q with
    | nil => intro ks; simp
    | cons a q ih =>
      intro ks
      have h1 := ih (addK ks a)
      have h2 : (addK ks a).length ≤ ks.length + 1 := by
        unfold addK
        split
        · omega
        · simp
      simp only [List.foldl_cons, List.length_cons]
      omega
  simpa [dst] using h q []

theorem mem_addK (ks : List (List Int)) (l m : List Int) : m ∈ addK ks l ↔ m ∈ ks ∨ m = l := by
  unfold addK
  split
  · rename_i h
    constructor
    · exact .inl
    · rintro (h1 | rfl)
      · exact h1
      · exact h
  · simp
theorem mem_dst (q : List (List Int)) (m : List Int) : m ∈ dst q ↔ m ∈ q := by
  have h : ∀ (q ks : List (List Int)), m ∈ q.foldl addK ks ↔ m ∈ ks ∨ m ∈ q := by
    intro q
    induction q with
    | nil => intro ks; simp
    | cons a q ih =>
      intro ks
      rw [List.foldl_cons, ih, mem_addK, List.mem_cons, or_assoc]
  simpa [dst] using h q []
theorem dst_same (q : List (List Int)) (p : Nat) (h : p + 1 < q.length) (e : q.getD (p + 1) [] = q.getD p []) : addK (dst (q.take (p + 1))) (q.getD (p + 1) []) = dst (q.take (p + 1)) := by
  have hm : q.getD (p + 1) [] ∈ dst (q.take (p + 1)) := by
    rw [mem_dst, e, List.getD_eq_getElem?_getD, List.getElem?_eq_getElem (by omega), Option.getD_some]
    have h2 : p < (q.take (p + 1)).length := by rw [List.length_take]; omega
    have h3 : (q.take (p + 1))[p] = q[p] := List.getElem_take
    exact h3 ▸ List.getElem_mem h2
  unfold addK
  rw [if_pos hm]
/-- A row in the midst of a block, loaded by a guarded operation of a drawn region. -/
theorem wanted_mid {P : Program} {ops : Array Oper} {o : Oper} {a : Act} {w : World} {K : Act → World → Prop} {Q : Exit → Act → World → Prop} (j : Nat) (b : Bool) (hgd : o.guard = some (j, b)) (s : Nat) (hs : (ops[j]?).bind (·.dst) = some s) (hv : a.tmps[s]? = some (.bool b))
    (ty : TypeId) (x : Operand) (ho : o.op = .load ty x) (g off : Nat) (hx : a.eval x = .pointer (some ⟨g, off, none⟩)) (cs : List Value) (d : TypeDesc) (hr : w.rangeAt g off cs)
    (hu : P.underlying ty = some d) (hd : d.isRow = true) (hi : (P.info? ty).map (·.size) = some cs.length)
    (h : K (a.put o.dst (.agg cs.toArray)) w) : if Region.wanted o (yielded ops a.tmps) = true then Oper.wp P o a w K Q else K (a.put o.dst undef) w := by
  rw [if_pos (by unfold Region.wanted; rw [hgd]; simp [yielded, hs, hv])]
  exact wp_load_mid ty x ho g off hx cs d hr hu hd hi h
theorem wpList_mapPut {ops : Array Oper} {rest : List Oper} {o : Oper} {a : Act} {w : World} {Q : Exit → Act → World → Prop}
    (hg : o.guard = none) (m x v : Operand) (hop : o.op = Op.mapUpdate 40 m x v) (b : Nat) (ks : List (List Int)) (h : MapL b ks w) (l : List Int) (hl : Lng l)
    (hm : a.eval m = .map (some b)) (hx : a.eval x = .agg (lg l)) (hv : a.eval v = .bool true)
    (hK : ∀ w', MapL b (addK ks l) w' → Ch (fun k => k = b) w w' → wpList Try.prog ops Q rest (a.put o.dst undef) w') :
    wpList Try.prog ops Q (o :: rest) a w := by
  refine wpList_plain hg fun K' hK' => ?_
  obtain ⟨w', hrun, r1, r2⟩ := h.put hl
  unfold Oper.wp
  simp [execOp, hop, hm, hx, hv, hrun, Result.andThen]
  exact hK' _ _ (hK w' r1 r2)

set_option maxRecDepth 100000 in
set_option maxHeartbeats 1000000 in
theorem diff_call (sp : Option Addr) (n c : Nat) (q : List (List Int)) (w : World) (hl : q.length = n) (hs : LSrc w sp q) (hm : n ≤ 1000000) :
    Calls Try.prog 18 #[.slice sp n c] w fun e w' => e = .returned (.int .i64 (dst q).length) ∧ Below w.heap.size w w' := by
  have hmk : ∀ w : World, (Instr.makeMap 40 none).run Try.prog w = .ok (.map (some w.heap.size)) (w.alloc (.map #[] 0)) := fun w => by
    simp [Instr.makeMap, run_underlying Try.underlying40, Result.andThen]
  go_enter Try.func18, Try.ntmps18
  go_wp2_with fail
  have hM : MapL w.heap.size [] (w.alloc (.map #[] 0)) := MapL.new w
  have hb : Below w.heap.size w (w.alloc (.map #[] 0)) := (Below.refl _ _).alloc (Nat.le_refl _) _
  generalize w.alloc (.map #[] 0) = w1 at hM hb ⊢
  have HM := Lib.hid hM
  have HB := Lib.hid hb
  have HS := Lib.hid hs
  clear hM hb hmk hs
  go_loopw [9] (fun vi wr => ∃ k : Nat, k ≤ n ∧ vi = .int .i64 k ∧ MapL w.heap.size (dst (q.take k)) wr ∧ Below w.heap.size w wr) (fun vi _ => n - (intOf vi).toNat)
  case atStart => exact ⟨0, by omega, rfl, HM.out, HB.out⟩
  case round =>
    obtain ⟨k, hk, rfl, hM, hb⟩ := hrel
    have HM2 := Lib.hid hM
    have HB2 := Lib.hid hb
    clear hM hb
    by_cases hlt : k < n
    · obtain ⟨g, o, hspe, hr, hT⟩ := (HS.out.on HB2.out).get (i := k) (by omega)
      subst hspe
      have HST := Lib.hid (dst_step q k (by omega))
      have hz := lngZ
      obtain ⟨l, hl0⟩ : ∃ l, l = q.getD k [] := ⟨_, rfl⟩
      rw [← hl0] at hr hT HST
      have HL0 := Lib.hid hl0
      clear hl0
      go_upto_region 5 with (first
        | (refine wpList_load_mid rfl 23 _ rfl g (o + k * 258) rfl (lg l).toList _ hr Try.underlying23 rfl (by rw [Array.length_toList]; exact lngIk hT) ?_)
        | (refine wpList_store_row rfl 23 _ _ rfl wr.heap.size (lg l) rfl rfl 23 (lg zL) (heap_alloc_last wr _) (lngIk hT) (by rw [lg_size zL_lng, lg_size hT]) (lg_all _) ?_))
      rw [World.setRow_alloc_new]
      simp only [Act.put]
      have hM3 := HM2.out.on ((Below.refl _ _).alloc (Nat.le_refl _) (.cells (lg l) 23))
      have hb3 := HB2.out.alloc HB2.out.size (.cells (lg l) 23)
      have hg3 := heap_alloc_last wr (.cells (lg l) 23)
      generalize wr.alloc (.cells (lg l) 23) = w3 at hM3 hb3 hg3 ⊢
      have HM3 := Lib.hid hM3
      have HB3 := Lib.hid hb3
      clear hM3 hb3 hz hr
      by_cases hk0 : k = 0
      · subst hk0
        go_upto_region 5 with fail
        go_quiet (fail)
        go_wp2_with (first
          | (refine wpList_load_row rfl 23 _ rfl wr.heap.size rfl 23 (lg l) (0, 0) _ hg3 Try.underlying23 rfl (lngIk hT) ?_)
          | (refine wpList_mapPut rfl _ _ _ rfl w.heap.size _ HM3.out l hT rfl rfl rfl ?_; intro w4 hM4 hc4))
        exact ⟨⟨0 + 1, by omega, by go_num, by rw [HST.out]; exact hM4, (HB3.out.drewN _).trans (hc4.below (HB3.out.drewN _).size (fun y e => by subst e; exact Nat.le_refl _))⟩, by simp [intOf]; omega⟩
      · obtain ⟨p, hkp⟩ : ∃ p, k = p + 1 := ⟨k - 1, by omega⟩
        have HKP := Lib.hid hkp
        have hsub : IntKind.i64.wrap ((k : Int) - 1) = (p : Int) := by rw [IntKind.wrap_i64]; omega
        have hpn : p < n := by omega
        have hk00 : (((k : Int)) == 0) = false := by simp; omega
        obtain ⟨g', o', hspe', hrp, hX⟩ := (HS.out.on HB3.out).get (i := p) (by omega)
        injection hspe' with hspe'
        injection hspe' with e1 e2 _
        subst e1 e2
        have HSA := Lib.hid (show q.getD (p + 1) [] = q.getD p [] → addK (dst (q.take (p + 1))) (q.getD (p + 1) []) = dst (q.take (p + 1)) from dst_same q p (by omega))
        rw [← hkp, ← HL0.out] at HSA
        generalize q.getD p [] = X at hrp hX HSA
        obtain ⟨D, hD⟩ : ∃ D, D = decide (l = X) := ⟨_, rfl⟩
        have heq := fun W => run_eqi_lng W hT hX
        rw [← hD] at heq
        have HD := Lib.hid hD
        have HSUB := Lib.hid hsub
        clear hD hkp hsub
        go_upto_region 5 with fail
        refine wp_region_frame (J := Js [eqv (.int .i64 k), eqv (.bool false), eqv (.bool false), eqv (.agg (lg l)), eqv (.slice (some ⟨g, o, none⟩) n c), eqv (.int .i64 k), eqv (.int .i64 p), eqv (.pointer (some ⟨g, o + p * 258, none⟩)), eqv (.agg (lg X)), eqv (.bool (!D)), eqv (.bool (!D))]) (ds := [14, 15, 16, 17, 18, 19, 20, 21, 22, 23, 24]) (N := 30)
          (B := [(0, .slice (some ⟨g, o, none⟩) n c), (4, .int .i64 k), (5, .pointer (some ⟨wr.heap.size, 0, none⟩))]) (by kernel_rfl) (by kernel_rfl) (Js_mono ⟨eqv_mono _, eqv_mono _, eqv_mono _, eqv_mono _, eqv_mono _, eqv_mono _, eqv_mono _, eqv_mono _, eqv_mono _, eqv_mono _, eqv_mono _, trivial⟩) rfl rfl (by simp) ?_ ?_
        · refine ⟨?_, ?_, ?_, ?_, ?_, ?_, ?_, ?_, ?_, ?_, ?_, trivial⟩
          · intro a w' hb hdep K hK
            have c4 := hb.at 1 4 _ rfl
            clear hdep
            go_simp
            exact hK _ _ rfl (Below.refl _ _)
          · intro a w' hb hdep K hK
            obtain ⟨v0, e0, j0⟩ := hdep 0 (by kernel_rfl)
            replace e0 : a.tmps[14]? = some v0 := e0
            obtain rfl : v0 = _ := j0
            clear hdep
            go_simp
            exact hK _ _ rfl (Below.refl _ _)
          · intro a w' hb hdep K hK
            obtain ⟨v1, e1, j1⟩ := hdep 1 (by kernel_rfl)
            replace e1 : a.tmps[15]? = some v1 := e1
            obtain rfl : v1 = _ := j1
            clear hdep
            go_simp
            exact hK _ _ rfl (Below.refl _ _)
          · intro a w' hb hdep K hK
            have c5 := hb.at 2 5 _ rfl
            obtain ⟨v2, e2, j2⟩ := hdep 2 (by kernel_rfl)
            replace e2 : a.tmps[16]? = some v2 := e2
            obtain rfl : v2 = _ := j2
            clear hdep
            refine wanted_row 2 false rfl 16 rfl (by assumption) 23 _ rfl wr.heap.size (by simp [Act.eval, c5]) 23 (lg l) (0, 0) _ (heap_on hb.bel hg3) Try.underlying23 rfl (lngIk hT) ?_
            exact hK _ _ rfl (Below.refl _ _)
          · intro a w' hb hdep K hK
            have c0 := hb.at 0 0 _ rfl
            obtain ⟨v2, e2, j2⟩ := hdep 2 (by kernel_rfl)
            replace e2 : a.tmps[16]? = some v2 := e2
            obtain rfl : v2 = _ := j2
            clear hdep
            go_simp
            exact hK _ _ rfl (Below.refl _ _)
          · intro a w' hb hdep K hK
            have c4 := hb.at 1 4 _ rfl
            obtain ⟨v2, e2, j2⟩ := hdep 2 (by kernel_rfl)
            replace e2 : a.tmps[16]? = some v2 := e2
            obtain rfl : v2 = _ := j2
            clear hdep
            go_simp
            exact hK _ _ rfl (Below.refl _ _)
          · intro a w' hb hdep K hK
            obtain ⟨v5, e5, j5⟩ := hdep 5 (by kernel_rfl)
            replace e5 : a.tmps[19]? = some v5 := e5
            obtain rfl : v5 = _ := j5
            obtain ⟨v2, e2, j2⟩ := hdep 2 (by kernel_rfl)
            replace e2 : a.tmps[16]? = some v2 := e2
            obtain rfl : v2 = _ := j2
            have hsub := HSUB.out
            clear hdep
            go_simp
            exact hK _ _ rfl (Below.refl _ _)
          · intro a w' hb hdep K hK
            obtain ⟨v4, e4, j4⟩ := hdep 4 (by kernel_rfl)
            replace e4 : a.tmps[18]? = some v4 := e4
            obtain rfl : v4 = _ := j4
            obtain ⟨v6, e6, j6⟩ := hdep 6 (by kernel_rfl)
            replace e6 : a.tmps[20]? = some v6 := e6
            obtain rfl : v6 = _ := j6
            obtain ⟨v2, e2, j2⟩ := hdep 2 (by kernel_rfl)
            replace e2 : a.tmps[16]? = some v2 := e2
            obtain rfl : v2 = _ := j2
            clear hdep
            go_simp
            exact hK _ _ rfl (Below.refl _ _)
          · intro a w' hb hdep K hK
            obtain ⟨v7, e7, j7⟩ := hdep 7 (by kernel_rfl)
            replace e7 : a.tmps[21]? = some v7 := e7
            obtain rfl : v7 = _ := j7
            obtain ⟨v2, e2, j2⟩ := hdep 2 (by kernel_rfl)
            replace e2 : a.tmps[16]? = some v2 := e2
            obtain rfl : v2 = _ := j2
            clear hdep
            refine wanted_mid 2 false rfl 16 rfl (by assumption) 23 _ rfl g (o + p * 258) (by simp [Act.eval, e7]) (lg X).toList _ (fun j v hv => cell_on hb.bel (hrp j v hv)) Try.underlying23 rfl (by rw [Array.length_toList]; exact lngIk hX) ?_
            exact hK (.agg (lg X)) _ rfl (Below.refl _ _)
          · intro a w' hb hdep K hK
            obtain ⟨v3, e3, j3⟩ := hdep 3 (by kernel_rfl)
            replace e3 : a.tmps[17]? = some v3 := e3
            obtain rfl : v3 = _ := j3
            obtain ⟨v8, e8, j8⟩ := hdep 8 (by kernel_rfl)
            replace e8 : a.tmps[22]? = some v8 := e8
            obtain rfl : v8 = _ := j8
            obtain ⟨v2, e2, j2⟩ := hdep 2 (by kernel_rfl)
            replace e2 : a.tmps[16]? = some v2 := e2
            obtain rfl : v2 = _ := j2
            clear hdep
            go_simp
            exact hK _ _ rfl (Below.refl _ _)
          · intro a w' hb hdep K hK
            obtain ⟨v2, e2, j2⟩ := hdep 2 (by kernel_rfl)
            replace e2 : a.tmps[16]? = some v2 := e2
            obtain rfl : v2 = _ := j2
            obtain ⟨v9, e9, j9⟩ := hdep 9 (by kernel_rfl)
            replace e9 : a.tmps[23]? = some v9 := e9
            obtain rfl : v9 = _ := j9
            clear hdep
            go_simp
            exact hK _ _ rfl (Below.refl _ _)
        intro vs w' hvl hall hb
        obtain ⟨v0, v1, v2, v3, v4, v5, v6, v7, v8, v9, v10, rfl⟩ : ∃ v0 v1 v2 v3 v4 v5 v6 v7 v8 v9 v10, vs = [v0, v1, v2, v3, v4, v5, v6, v7, v8, v9, v10] := by
          match vs, hvl with
          | [v0, v1, v2, v3, v4, v5, v6, v7, v8, v9, v10], _ => exact ⟨v0, v1, v2, v3, v4, v5, v6, v7, v8, v9, v10, rfl⟩
        obtain rfl : v0 = _ := hall 0 (by decide)
        obtain rfl : v1 = _ := hall 1 (by decide)
        obtain rfl : v2 = _ := hall 2 (by decide)
        obtain rfl : v3 = _ := hall 3 (by decide)
        obtain rfl : v4 = _ := hall 4 (by decide)
        obtain rfl : v5 = _ := hall 5 (by decide)
        obtain rfl : v6 = _ := hall 6 (by decide)
        obtain rfl : v7 = _ := hall 7 (by decide)
        obtain rfl : v8 = _ := hall 8 (by decide)
        obtain rfl : v9 = _ := hall 9 (by decide)
        obtain rfl : v10 = _ := hall 10 (by decide)
        simp only [putAll, List.setIfInBounds_toArray, List.set_cons_zero, List.set_cons_succ]
        have HM3 := Lib.hid (HM3.out.on hb)
        have HB3 := Lib.hid (HB3.out.trans (hb.mono HB3.out.size))
        replace hg3 := heap_on hb hg3
        clear hb hall hvl
        cases D with
        | true =>
          have HE := Lib.hid (HSA.out (of_decide_eq_true HD.out.symm))
          go_wp2_with fail
          exact ⟨⟨k + 1, by omega, by go_num, by rw [HST.out, HE.out]; exact HM3.out, HB3.out⟩, by simp [intOf]; omega⟩
        | false =>
          go_wp2_with (first
            | (refine wpList_load_row rfl 23 _ rfl wr.heap.size rfl 23 (lg l) (0, 0) _ hg3 Try.underlying23 rfl (lngIk hT) ?_)
            | (refine wpList_mapPut rfl _ _ _ rfl w.heap.size _ HM3.out l hT rfl rfl rfl ?_; intro w4 hM4 hc4))
          exact ⟨⟨k + 1, by omega, by go_num, by rw [HST.out]; exact hM4, HB3.out.trans (hc4.below HB3.out.size (fun y e => by subst e; exact Nat.le_refl _))⟩, by simp [intOf]; omega⟩
    · obtain rfl : k = n := by omega
      obtain ⟨ht, es, clock, hbk, hkk⟩ := HM2.out
      have hsz : es.size = (dst q).length := by
        have h1 := congrArg List.length hkk
        rw [List.length_map, List.length_map, Array.length_toList, List.take_of_length_le (by omega)] at h1
        exact h1
      have HZ := Lib.hid hsz
      have HB4 := Lib.hid HB2.out
      have hlen : (Builtin.len_ #[40] 3 #[.map (some w.heap.size)]).run Try.prog wr = .ok (.int .i64 es.size) wr := by
        simp [Builtin.len_, run_underlying Try.underlying40, MapKept.run_getObj_map hbk, Result.andThen, goInt]
      clear hsz hkk ht
      go_wp2_with fail
      go_ret
      exact ⟨by rw [← HZ.out]; rfl, HB4.out⟩

end Go.Proofs.Ytcekjibkifdchaa
