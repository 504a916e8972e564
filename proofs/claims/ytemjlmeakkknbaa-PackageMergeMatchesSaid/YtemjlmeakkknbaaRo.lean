/- Order of the reference. -/
import Derived.Test.YtemjlmeakkknbaaRm
import Derived.Test.YtemjlmeakkknbaaOd
set_option linter.unusedVariables false
set_option linter.unusedSimpArgs false
namespace Go.Proofs.Ytemjlmeakkknbaa
open Go.RowKit

/-- The leaves of the first k symbols. -/
def lvK (t : List Int) (k : Nat) : List (Int × Int) := sortR (prK t k)
theorem lvK_le (t : List Int) (k : Nat) : (lvK t k).length ≤ k := by rw [lvK, (sortR_perm _).length_eq]; exact prK_le t k
theorem lvK_mem {t : List Int} {k : Nat} {x : Int × Int} (h : x ∈ lvK t k) : ∃ s : Nat, s < k ∧ x.1 = s ∧ x.2 = t.getD s 0 ∧ 0 < x.2 := prK_mem ((sortR_perm _).mem_iff.1 h)
theorem lvK_srt (t : List Int) (k : Nat) : Srt (lvK t k) := (sortR_sorted (prK t k)).imp fun h => by rw [rle_iff] at h; omega
theorem lvK_no (t : List Int) (k : Nat) (h : ¬ 0 < t.getD k 0) : lvK t (k + 1) = lvK t k := by rw [lvK, prK_no t k h]; rfl
theorem lvK_put (t : List Int) (k j : Nat) (h : 0 < t.getD k 0) (h1 : ∀ a ∈ (lvK t k).take j, a.2 ≤ t.getD k 0) (h2 : ∀ b ∈ (lvK t k).drop j, t.getD k 0 < b.2) :
    (lvK t (k + 1)).map (·.1) = ((lvK t k).map (·.1)).take j ++ (k : Int) :: ((lvK t k).map (·.1)).drop j := by
  rw [lvK, prK_yes t k h, sort_put (x := ((k : Int), t.getD k 0)) (j := j) (fun a ha => by
    obtain ⟨s, h3, h4, _⟩ := prK_mem ha
    show a.1 < (k : Int)
    omega) h1 h2, List.map_append, List.map_cons, List.map_take, List.map_drop]
  rfl
/-- A slice of integers made by the call (or none). -/
structure NewS (w w' : World) (a : Option Addr) (c : Nat) (q : List Int) : Prop where
  win : WinS w' .i64 3 a c q
  new : ∀ g, blk a = some g → w.heap.size ≤ g
  bel : Below w.heap.size w w'
theorem NewS.on {w w' w'' : World} {a : Option Addr} {c : Nat} {q : List Int} (h : NewS w w' a c q) (hb : Below w'.heap.size w' w'') : NewS w w'' a c q :=
  ⟨h.win.below hb, h.new, h.bel.trans (hb.mono h.bel.size)⟩
theorem NewS.app {w w' w'' : World} {a a' : Option Addr} {c c' : Nat} {q q' : List Int} (h : NewS w w' a c q) (h1 : WinS w'' .i64 3 a' c' q') (h2 : w'.grownBy w'' (blk a)) (h3 : blk a' = blk a ∨ blk a' = some w'.heap.size) : NewS w w'' a' c' q' := by
  refine ⟨h1, fun g e => ?_, h.bel.grown h2 h.bel.size (fun g e => h.new g e)⟩
  rcases h3 with h3 | h3
  · exact h.new g (h3 ▸ e)
  · rw [h3] at e
    injection e with e
    subst e
    exact h.bel.size
/-- A slice that the call has made, read while another one grows. -/
theorem NewS.keepSrc {w w' w'' : World} {a : Option Addr} {c : Nat} {q : List Int} (h : NewS w w' a c q) (hb : Below w'.heap.size w' w'') : WinS w'' .i64 3 a c q := h.win.below hb
/-- out[j:], its address in one word. -/
theorem run_restI (a : Option Addr) (n c k : Nat) (hk : (k : Int) ≤ (n : Int)) (hc : (n : Int) ≤ (c : Int)) (ad : Option Addr) (had : ad = if c = k then a else a.map (·.add k)) (w : World) :
    (Instr.sliceAt 30 (.slice a n c) (some (.int .i64 k)) none none).run Try.prog w = .ok (.slice ad (n - k) (c - k)) w ∧
    (Instr.slice 30 (.slice a n c) (some (.int .i64 k)) none none).run Try.prog w = .ok (.slice ad (n - k) (c - k)) w := by
  subst had
  constructor <;> (go_simp; done)
theorem fst_getD (l : List (Int × Int)) (j : Nat) (hj : j < l.length) : (l.map (·.1)).getD j 0 = (l.getD j (0, 0)).1 := by
  rw [List.getD_eq_getElem?_getD, List.getElem?_map, List.getElem?_eq_getElem hj, List.getD_eq_getElem?_getD, List.getElem?_eq_getElem hj]
  rfl

set_option maxRecDepth 100000 in
set_option maxHeartbeats 4000000 in
theorem rorder_call (t : List Int) (h : Tal t) (w : World) :
    Calls Try.prog 12 #[.agg (tl t)] w fun e w' => ∃ a c, e = .returned (.slice a (ordV t).length c) ∧ Src w' .i64 a (ordV t) ∧ Below w.heap.size w w' := by
  go_enter Try.func12, Try.ntmps12
  go_wp2_with fail
  have hg := heap_alloc_last w (.cells (tl t) 23)
  have hb := (Below.refl w.heap.size w).alloc (Nat.le_refl _) (.cells (tl t) 23)
  have hws : (w.alloc (.cells (tl t) 23)).heap.size = w.heap.size + 1 := by simp
  generalize w.alloc (.cells (tl t) 23) = w1 at hg hb hws ⊢
  have HWS := Lib.hid hws
  clear hws
  by_cases hv : VT t
  · have HS := Lib.hid (show ordV t = (lvK t 258).map (·.1) by unfold ordV ordL lvT lvK; rw [if_pos hv, h.1])
    have hvc := fun w => rvalid_call t h w
    rw [decide_eq_true hv] at hvc
    have HB0 := Lib.hid hb
    have HG0 := Lib.hid hg
    clear hb hg
    go_loopw [3, 4] (fun s3 s4 wr => ∃ (k u : Nat) (a : Option Addr) (c : Nat), k ≤ 258 ∧ s4 = .int .i64 k ∧ s3 = .slice a u c ∧ u = ((lvK t k).map (·.1)).length ∧ wr.heap[w.heap.size]? = some (.cells (tl t) 23 (0, 0)) ∧ NewS w1 wr a c ((lvK t k).map (·.1))) (fun _ s4 _ => 258 - (intOf s4).toNat)
    case atStart => exact ⟨0, 0, none, 0, by omega, rfl, rfl, rfl, HG0.out, WinS.nil _ _ _, (fun g e => by cases e), Below.refl _ _⟩
    case round =>
      clear HG0
      obtain ⟨k, u, a, c, hk, rfl, rfl, hu, hg, hs⟩ := hrel
      have HU := Lib.hid hu
      have HN := Lib.hid hs
      have hle := lvK_le t k
      have hu2 : u ≤ 258 := by rw [hu, List.length_map]; omega
      clear hu hs
      by_cases hlt : k < 258
      · have hbd := hv.get k
        have HNO := Lib.hid (lvK_no t k)
        have HPU := Lib.hid (fun j => lvK_put t k j)
        go_upto_region 5 with (first
          | (refine wpList_load_row_g 2 true rfl 9 rfl _ rfl (decide_eq_true (by omega)) 23 _ rfl w.heap.size rfl 23 (tl t) (0, 0) _ hg Try.underlying23 rfl (talIk h) ?_)
          | (with_reducible refine (hvc _).mono ?_; rintro e w2 ⟨rfl, hb2⟩
             replace hg := heap_on hb2 hg
             replace HN := Lib.hid (HN.out.on hb2)
             clear hb2))
        have hcl := tl_cell hg h k hlt
        obtain ⟨V, hVe⟩ : ∃ V, V = t.getD k 0 := ⟨_, rfl⟩
        rw [← hVe] at hbd hcl HNO HPU
        have HVE := Lib.hid hVe
        clear hVe
        by_cases hV0 : V = 0
        · have hno := HNO.out (by omega)
          have hxx : (V == 0) = true := by simpa using hV0
          go_wp2_with fail
          exact ⟨⟨k + 1, u, a, c, by omega, by go_num, rfl, by rw [hno]; exact HU.out, hg, by rw [hno]; exact HN.out⟩, by simp [intOf]; omega⟩
        · have hxx : (V == 0) = false := by simpa using hV0
          have hVp : 0 < V := by omega
          go_wp2_with fail
          go_loopw [5] (fun s5 wx => ∃ j : Nat, j ≤ u ∧ s5 = .int .i64 j ∧ (∀ b ∈ (lvK t k).drop j, V < b.2) ∧ wx.heap[w.heap.size]? = some (.cells (tl t) 23 (0, 0)) ∧ NewS w1 wx a c ((lvK t k).map (·.1))) (fun s5 _ => (intOf s5).toNat)
          case atStart => exact ⟨u, Nat.le_refl _, rfl, (fun b hb => by rw [List.drop_of_length_le (by rw [HU.out, List.length_map]; exact Nat.le_refl _)] at hb; cases hb), hg, HN.out⟩
          case round =>
            clear hg HN hcl
            obtain ⟨j, hj, rfl, hd, hg, hs⟩ := hrel
            have HD := Lib.hid hd
            have HN := Lib.hid hs
            clear hd hs
            have hcl := tl_cell hg h k hlt
            rw [← HVE.out] at hcl
            by_cases hj0 : 0 < j
            · have hj1 : j - 1 < (lvK t k).length := by have := HU.out; rw [List.length_map] at this; omega
              obtain ⟨p, hp1, hp2, hp3, hp4⟩ := lvK_mem (x := (lvK t k).getD (j - 1) (0, 0)) (by rw [List.getD_eq_getElem?_getD, List.getElem?_eq_getElem hj1]; exact List.getElem_mem _)
              obtain ⟨ag, ao, rfl, hcp⟩ := HN.out.win.src.get (j := j - 1) (by rw [List.length_map]; exact hj1)
              rw [fst_getD _ _ hj1, hp2] at hcp
              have htp := tl_cell hg h p (by omega)
              have HST : RowKit.Hid (V < ((lvK t k).getD (j - 1) (0, 0)).2 → ∀ b ∈ (lvK t k).drop (j - 1), V < b.2) := Lib.hid (fun h => drop_step hj1 (by rw [Nat.sub_add_cancel hj0]; exact HD.out) h)
              rw [← hp3] at htp
              have HSP : RowKit.Hid (((lvK t k).getD (j - 1) (0, 0)).2 ≤ V → j = 0 ∨ ((lvK t k).getD (j - 1) (0, 0)).2 ≤ V) := Lib.hid .inr
              obtain ⟨Y, hY⟩ : ∃ Y, Y = ((lvK t k).getD (j - 1) (0, 0)).2 := ⟨_, rfl⟩
              rw [← hY] at htp HST HSP hp4
              have HY := Lib.hid hY
              have hpI : (p : Int) < 258 := by omega
              have w1' : IntKind.i64.wrap ((j : Int) - 1) = (j : Int) - 1 := by rw [IntKind.wrap_i64]; omega
              have w2' : ((j : Int) - 1).toNat = j - 1 := by omega
              have w3' : (0 : Int) ≤ (j : Int) - 1 := by omega
              have w4' : (j : Int) - 1 < (u : Int) := by omega
              clear hp2 hp3 hY
              by_cases hYV : V < Y
              · have d1 : decide (V < Y) = true := decide_eq_true hYV
                go_upto_region 7 with fail
                go_quiet (fail)
                go_wp2_with fail
                exact ⟨⟨j - 1, by omega, by congr 1; omega, HST.out hYV, hg, HN.out.on ((Below.refl _ _).drewN _)⟩, by simp [intOf]; omega⟩
              · have d1 : decide (V < Y) = false := decide_eq_false hYV
                go_upto_region 7 with fail
                go_quiet (fail)
                have hju : j ≤ ((lvK t k).map (·.1)).length := by rw [← HU.out]; exact hj
                have hput := HPU.out j hVp (stop_at (lvK_srt t k) (by rw [List.length_map] at hju; exact hju) HD.out (.inr (by rw [← HY.out]; omega))) HD.out
                have HPUT := Lib.hid hput
                obtain ⟨q, hq⟩ : ∃ q, q = (lvK t k).map (·.1) := ⟨_, rfl⟩
                rw [← hq] at hju HPUT HN HU
                have hlt1 : (q.take j).length = j := by rw [List.length_take]; omega
                have hlt2 : (q.drop j).length = u - j := by rw [List.length_drop, ← HU.out]
                have hcu : u ≤ c := by have := HN.out.win.cap; rw [← HU.out] at this; exact this.1
                have hjI : (j : Int) ≤ (u : Int) := by omega
                have hjc : (j : Int) ≤ (c : Int) := by omega
                have huc : (u : Int) ≤ (c : Int) := by omega
                obtain ⟨ad, had⟩ : ∃ ad : Option Addr, ad = if c = j then (some ⟨ag, ao, none⟩ : Option Addr) else (some ⟨ag, ao, none⟩ : Option Addr).map (·.add j) := ⟨_, rfl⟩
                have hr1 := fun w => (run_restI (some ⟨ag, ao, none⟩ : Option Addr) u c j hjI huc ad had w).1
                have hr2 := fun w => (run_restI (some ⟨ag, ao, none⟩ : Option Addr) u c j hjI huc ad had w).2
                have HRS : RowKit.Hid (∀ w' : World, WinS w' .i64 3 (some ⟨ag, ao, none⟩ : Option Addr) c q → Src w' .i64 ad (q.drop j)) := Lib.hid (fun w' hw => by rw [had]; exact (hw.drop j hju).src)
                have HN0 := Lib.hid (HN.out.on ((Below.refl _ _).drewN nq))
                have HG0 : (wr.drewN nq).heap[w.heap.size]? = some (.cells (tl t) 23 (0, 0)) := hg
                have HU2 := Lib.hid hu2
                clear hput hq had hg
                generalize wr.drewN nq = wy at HN0 HG0 ⊢
                go_wp2_with (first
                  | (refine wpList_appendW rfl _ _ 30 rfl 3 .i64 8 intsT intI none 0 [] 0 rfl rfl (WinS.nil _ _ _) (some ⟨ag, ao, none⟩ : Option Addr) j c rfl (q.take j) hlt1 (HN0.out.win.take j).src (by unfold maxLen; omega) (by omega) ?_
                     intro a1 c1 w3 p1 p2 p3
                     have hb3 : Below wy.heap.size wy w3 := ⟨p2.os, p2.tape, p2.output, p2.size, fun y hy => p2.block y hy (by simp [blk])⟩
                     have hn3 : ∀ y, blk a1 = some y → w1.heap.size ≤ y := fun y e => by
                       rcases p3 with p3 | p3
                       · rw [p3] at e; cases e
                       · rw [p3] at e; injection e with e; have := HN0.out.bel.size; omega
                     have hN3 : NewS w1 w3 a1 c1 (q.take j) := ⟨by rw [List.nil_append] at p1; exact p1, hn3, HN0.out.bel.trans (hb3.mono HN0.out.bel.size)⟩
                     have hg3 := heap_on hb3 HG0
                     have hS3 := HN0.out.win.below hb3
                     have hn9 : ∀ y, blk a1 = some y → wy.heap.size ≤ y := fun y e => by
                       rcases p3 with p3 | p3
                       · rw [p3] at e; cases e
                       · rw [p3] at e; injection e with e; omega
                     have HN9 := Lib.hid hn9
                     have HBY := Lib.hid hb3
                     clear p1 p2 p3 hn3 hb3 hn9)
                  | (refine wpList_appendW rfl _ _ 30 rfl 3 .i64 8 intsT intI a1 c1 (q.take j) j hlt1 rfl (hN3.on ((Below.refl _ _).alloc (Nat.le_refl _) _)).win (some ⟨w3.heap.size, 0, none⟩) 1 1 rfl [(k : Int)] rfl (Src.one (by simp)) (by unfold maxLen; omega) (by omega) ?_
                     intro a2 c2 w4 p4 p5 p6
                     have hN4 := (hN3.on ((Below.refl _ _).alloc (Nat.le_refl _) (.cells #[.int .i64 (k : Int)] 3))).app p4 p5 p6
                     have hch : Ch (fun y => wy.heap.size ≤ y) wy w4 := ((Ch.of_below HBY.out).alloc _).grown p5 (fun y e => .inl (HN9.out y e))
                     have hby : Below wy.heap.size wy w4 := hch.below (Nat.le_refl _) (fun y e => e)
                     have hg4 := heap_on hby HG0
                     have hn10 : ∀ y, blk a2 = some y → wy.heap.size ≤ y := fun y e => by
                       rcases p6 with p6 | p6
                       · exact HN9.out y (p6 ▸ e)
                       · rw [p6] at e; injection e with e; have := HBY.out.size; simp at e; omega
                     have HN10 := Lib.hid hn10
                     have HBZ := Lib.hid hby
                     have hS4 := HN0.out.win.below hby
                     clear p4 p5 p6 hch hby hn10)
                  | (refine wpList_appendW rfl _ _ 30 rfl 3 .i64 8 intsT intI a2 c2 (q.take j ++ [(k : Int)]) (j + 1) (by rw [List.length_append, hlt1]; rfl) rfl hN4.win ad (u - j) (c - j) rfl (q.drop j) hlt2 (HRS.out w4 hS4) (by unfold maxLen; omega) (by omega) ?_
                     intro a5 c5 w5 p7 p8 p9))
                have hN5 := hN4.app p7 p8 p9
                have hby5 : Below wy.heap.size wy w5 := (((Ch.of_below HBZ.out).grown p8 (fun y e => .inl (HN10.out y e)) : Ch (fun y => wy.heap.size ≤ y) wy w5)).below (Nat.le_refl _) (fun y e => e)
                have eq : q.take j ++ [(k : Int)] ++ q.drop j = (lvK t (k + 1)).map (·.1) := by rw [HPUT.out]; simp
                rw [eq] at hN5
                have el : j + 1 + (u - j) = ((lvK t (k + 1)).map (·.1)).length := by rw [← eq, List.length_append, List.length_append, hlt1, hlt2]; rfl
                go_roundw
                case rel => exact ⟨k + 1, j + 1 + (u - j), a5, c5, by omega, by go_num, rfl, el, heap_on hby5 HG0, hN5⟩
                case measure => simp [intOf]; omega
            · go_upto_region 7 with fail
              go_quiet (fail)
              have hju : j ≤ ((lvK t k).map (·.1)).length := by rw [← HU.out]; exact hj
              have hput := HPU.out j hVp (stop_at (lvK_srt t k) (by rw [List.length_map] at hju; exact hju) HD.out (.inl (by omega))) HD.out
              have HPUT := Lib.hid hput
              obtain ⟨q, hq⟩ : ∃ q, q = (lvK t k).map (·.1) := ⟨_, rfl⟩
              rw [← hq] at hju HPUT HN HU
              have hlt1 : (q.take j).length = j := by rw [List.length_take]; omega
              have hlt2 : (q.drop j).length = u - j := by rw [List.length_drop, ← HU.out]
              have hcu : u ≤ c := by have := HN.out.win.cap; rw [← HU.out] at this; exact this.1
              have hjI : (j : Int) ≤ (u : Int) := by omega
              have hjc : (j : Int) ≤ (c : Int) := by omega
              have huc : (u : Int) ≤ (c : Int) := by omega
              obtain ⟨ad, had⟩ : ∃ ad : Option Addr, ad = if c = j then a else a.map (·.add j) := ⟨_, rfl⟩
              have hr1 := fun w => (run_restI a u c j hjI huc ad had w).1
              have hr2 := fun w => (run_restI a u c j hjI huc ad had w).2
              have HRS : RowKit.Hid (∀ w' : World, WinS w' .i64 3 a c q → Src w' .i64 ad (q.drop j)) := Lib.hid (fun w' hw => by rw [had]; exact (hw.drop j hju).src)
              have HN0 := Lib.hid (HN.out.on ((Below.refl _ _).drewN nq))
              have HG0 : (wr.drewN nq).heap[w.heap.size]? = some (.cells (tl t) 23 (0, 0)) := hg
              have HU2 := Lib.hid hu2
              clear hput hq had hg
              generalize wr.drewN nq = wy at HN0 HG0 ⊢
              go_wp2_with (first
                | (refine wpList_appendW rfl _ _ 30 rfl 3 .i64 8 intsT intI none 0 [] 0 rfl rfl (WinS.nil _ _ _) a j c rfl (q.take j) hlt1 (HN0.out.win.take j).src (by unfold maxLen; omega) (by omega) ?_
                   intro a1 c1 w3 p1 p2 p3
                   have hb3 : Below wy.heap.size wy w3 := ⟨p2.os, p2.tape, p2.output, p2.size, fun y hy => p2.block y hy (by simp [blk])⟩
                   have hn3 : ∀ y, blk a1 = some y → w1.heap.size ≤ y := fun y e => by
                     rcases p3 with p3 | p3
                     · rw [p3] at e; cases e
                     · rw [p3] at e; injection e with e; have := HN0.out.bel.size; omega
                   have hN3 : NewS w1 w3 a1 c1 (q.take j) := ⟨by rw [List.nil_append] at p1; exact p1, hn3, HN0.out.bel.trans (hb3.mono HN0.out.bel.size)⟩
                   have hg3 := heap_on hb3 HG0
                   have hS3 := HN0.out.win.below hb3
                   have hn9 : ∀ y, blk a1 = some y → wy.heap.size ≤ y := fun y e => by
                     rcases p3 with p3 | p3
                     · rw [p3] at e; cases e
                     · rw [p3] at e; injection e with e; omega
                   have HN9 := Lib.hid hn9
                   have HBY := Lib.hid hb3
                   clear p1 p2 p3 hn3 hb3 hn9)
                | (refine wpList_appendW rfl _ _ 30 rfl 3 .i64 8 intsT intI a1 c1 (q.take j) j hlt1 rfl (hN3.on ((Below.refl _ _).alloc (Nat.le_refl _) _)).win (some ⟨w3.heap.size, 0, none⟩) 1 1 rfl [(k : Int)] rfl (Src.one (by simp)) (by unfold maxLen; omega) (by omega) ?_
                   intro a2 c2 w4 p4 p5 p6
                   have hN4 := (hN3.on ((Below.refl _ _).alloc (Nat.le_refl _) (.cells #[.int .i64 (k : Int)] 3))).app p4 p5 p6
                   have hch : Ch (fun y => wy.heap.size ≤ y) wy w4 := ((Ch.of_below HBY.out).alloc _).grown p5 (fun y e => .inl (HN9.out y e))
                   have hby : Below wy.heap.size wy w4 := hch.below (Nat.le_refl _) (fun y e => e)
                   have hg4 := heap_on hby HG0
                   have hn10 : ∀ y, blk a2 = some y → wy.heap.size ≤ y := fun y e => by
                     rcases p6 with p6 | p6
                     · exact HN9.out y (p6 ▸ e)
                     · rw [p6] at e; injection e with e; have := HBY.out.size; simp at e; omega
                   have HN10 := Lib.hid hn10
                   have HBZ := Lib.hid hby
                   have hS4 := HN0.out.win.below hby
                   clear p4 p5 p6 hch hby hn10)
                | (refine wpList_appendW rfl _ _ 30 rfl 3 .i64 8 intsT intI a2 c2 (q.take j ++ [(k : Int)]) (j + 1) (by rw [List.length_append, hlt1]; rfl) rfl hN4.win ad (u - j) (c - j) rfl (q.drop j) hlt2 (HRS.out w4 hS4) (by unfold maxLen; omega) (by omega) ?_
                   intro a5 c5 w5 p7 p8 p9))
              have hN5 := hN4.app p7 p8 p9
              have hby5 : Below wy.heap.size wy w5 := (((Ch.of_below HBZ.out).grown p8 (fun y e => .inl (HN10.out y e)) : Ch (fun y => wy.heap.size ≤ y) wy w5)).below (Nat.le_refl _) (fun y e => e)
              have eq : q.take j ++ [(k : Int)] ++ q.drop j = (lvK t (k + 1)).map (·.1) := by rw [HPUT.out]; simp
              rw [eq] at hN5
              have el : j + 1 + (u - j) = ((lvK t (k + 1)).map (·.1)).length := by rw [← eq, List.length_append, List.length_append, hlt1, hlt2]; rfl
              go_roundw
              case rel => exact ⟨k + 1, j + 1 + (u - j), a5, c5, by omega, by go_num, rfl, el, heap_on hby5 HG0, hN5⟩
              case measure => simp [intOf]; omega
      · obtain rfl : k = 258 := by omega
        go_wp2_with fail
        go_ret
        refine ⟨a, c, by rw [HS.out, ← HU.out]; rfl, by rw [HS.out]; exact HN.out.win.src, HB0.out.trans (HN.out.bel.mono HB0.out.size)⟩
  · have HS := Lib.hid (show ordV t = [] from if_neg hv)
    have hvc := rvalid_call t h w1
    rw [decide_eq_false hv] at hvc
    have HB := Lib.hid hb
    clear hb
    go_loopw [3, 4] (fun s3 s4 wr => s4 = .int .i64 0 ∧ s3 = .slice none 0 0 ∧ wr = w1) (fun _ _ _ => 0)
    case atStart => exact ⟨rfl, rfl, rfl⟩
    case round =>
      obtain ⟨rfl, rfl, rfl⟩ := hrel
      go_wp2_with (first
        | (refine wpList_load_row_g 2 true rfl 9 rfl _ rfl rfl 23 _ rfl w.heap.size rfl 23 (tl t) (0, 0) _ hg Try.underlying23 rfl (talIk h) ?_)
        | (with_reducible refine hvc.mono ?_; rintro e w2 ⟨rfl, hb2⟩))
      go_ret
      exact ⟨none, 0, by rw [HS.out]; rfl, by rw [HS.out]; exact Src.nil _ _ _, HB.out.trans (hb2.mono HB.out.size)⟩
end Go.Proofs.Ytemjlmeakkknbaa
