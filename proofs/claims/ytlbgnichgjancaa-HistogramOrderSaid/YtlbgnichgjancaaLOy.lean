/- Law HistogramOrder: all are symbols. -/
import Derived.Test.YtlbgnichgjancaaLOr
set_option linter.unusedVariables false
set_option linter.unusedSimpArgs false
namespace Go.Proofs.Ytlbgnichgjancaa
open Go.RowKit

/-- The rest of a slice. -/
def restA (a : Option Addr) (cap A : Nat) : Option Addr := if cap = A then a else Option.map (fun x => x.add A) a
theorem restA_src {w : World} {a : Option Addr} {l : List Int} {n cap A : Nat} (hl : l.length = n) (h : Src w .i64 a l) (hA : A ≤ n) (hc : n ≤ cap) : Src w .i64 (restA a cap A) (l.drop A) := by
  unfold restA
  by_cases e : cap = A
  · rw [if_pos e]
    exact .inl (List.drop_eq_nil_of_le (by omega))
  · rw [if_neg e]
    rcases h with rfl | ⟨g, o, rfl, hcl⟩
    · exact .inl (by simp)
    · rw [Option.map_some, add_lit]
      exact Src.drop (.inr ⟨g, o, rfl, hcl⟩) A
theorem src_take {w : World} {a : Option Addr} {l : List Int} (h : Src w .i64 a l) (A : Nat) : Src w .i64 a (l.take A) := h.take A

theorem exch_perm (q : List Int) (I K : Nat) (hI : I < q.length) (hK : K < q.length) : ((q.set I (q.getD K 0)).set K (q.getD I 0)).Perm q := by
  have h := List.set_set_perm (i := I) (j := K) hI hK
  rw [List.getD_eq_getElem?_getD, List.getD_eq_getElem?_getD, List.getElem?_eq_getElem hI, List.getElem?_eq_getElem hK]
  exact h
theorem dst_two (L M : List Int) : (dst [L, L, M]).length ≤ 2 := by
  have h1 : dst [L, L, M] = addK (addK (addK [] L) L) M := rfl
  have h2 : addK [] L = [L] := by simp [addK]
  have h3 : addK [L] L = [L] := by simp [addK]
  rw [h1, h2, h3]
  unfold addK
  split <;> simp

theorem range_row {w : World} {g : Nat} {t : TypeId} {fr : Nat × Nat} {cs : Array Value} (h : w.heap[g]? = some (.cells cs t fr)) : w.rangeAt g 0 cs.toList := fun j v hv => by
  simp only [World.cell?, h, Nat.zero_add]
  simpa using hv
theorem range_on {w w' : World} {g o : Nat} {cs : List Value} (h : w.rangeAt g o cs) (hb : Below w.heap.size w w') : w'.rangeAt g o cs := fun j v hv => cell_on hb (h j v hv)
theorem there_row {w : World} {g : Nat} (h : w.heap[g]? = some (.cells (tl zT) 23 (0, 0))) : w.there g 0 258 := fun j hj => by
  have hc := tl_cell h zT_tal j hj
  rw [Nat.zero_add]
  exact ⟨by rw [hc]; rfl, frozen_of_row _ _ _ _ _ h⟩
theorem there_on {w w' : World} {g o n : Nat} (h : w.there g o n) (hb : Below w.heap.size w w') : w'.there g o n := fun j hj => by
  obtain ⟨h1, h2⟩ := h j hj
  obtain ⟨v, hv⟩ := Option.isSome_iff_exists.1 h1
  have hlt := World.block_lt_of_cell? _ _ hv
  have e := hb.block g hlt
  exact ⟨by rw [cell_on hb hv]; rfl, by rw [← h2]; simp only [World.frozen?, e]⟩
theorem setCells_row (W : World) (g : Nat) (hg : W.heap[g]? = some (.cells (tl zT) 23 (0, 0))) (L : List Int) (hL : Tal L) : W.setCells g 0 (tl L).toList = W.setRow g (tl L) := by
  have h1 := run_storeVar_mid (P := Try.prog) W g 0 23 (tl L) (by rw [tl_size hL]; exact there_row hg) (talIk hL) (tl_all L)
  have h2 := run_storeVar_row (P := Try.prog) W g 23 23 (tl zT) (tl L) hg (talIk hL) (by rw [tl_size hL, tl_size zT_tal]) (tl_all L)
  rw [h1] at h2
  injection h2

set_option maxRecDepth 100000 in
set_option maxHeartbeats 4000000 in
theorem order_in (sp : Option Addr) (n c : Nat) (i k at_ : Int) (w : World) (q : List Int) (hl : q.length = n) (hs : Src w .i64 sp q) (hn : n ≤ 300) (hlc : n ≤ c) (hcm : c ≤ maxLen) (hq : Sy q)
    (A : Nat) (hA : (A : Int) = min (max at_ 0) n) :
    Calls Try.prog 4 #[.slice sp n c, .int .i64 i, .int .i64 k, .int .i64 at_] w fun e w' => e = .returned (.bool true) ∧ Below w.heap.size w w' := by
  have hof := of_call sp n c q w hl hs (by omega)
  have ho : addOk zT q := (z_ok q (by omega)).2 hq
  have hAn : A ≤ n := by omega
  have hsu : sumV (addV zT q) = n := by
    unfold sumV
    rw [(add_yes ho).1, if_pos ho.2.2, addN_sum _ _ zT_tal.1 hq, zT_sum, hl]
    omega
  have hc63 : c ≤ 9223372036854775807 := by unfold maxLen at hcm; omega
  have hTL := addV_tal zT_tal q (by omega)
  rw [(add_yes ho).2] at hof
  have hLD : addV zT q = addN zT q := (add_yes ho).1
  have HL := Lib.hid hl
  have HS := Lib.hid hs
  have HQ := Lib.hid hq
  have HA := Lib.hid hA
  have HLD := Lib.hid hLD
  clear hl hs hq ho hA hLD
  generalize addV zT q = L at hof hsu hTL HLD
  have hsm := fun w => sum_call L hTL w
  rw [hsu] at hsm
  clear hsu
  have hz := talZ
  go_enter Try.func4, Try.ntmps4
  go_wp2_with fail
  refine hof.mono ?_
  rintro e w1 ⟨rfl, hb1⟩
  have HB1 := Lib.hid hb1
  clear hb1 hof
  go_upto_region 4 with (refine wpList_store_row rfl 23 _ _ rfl w1.heap.size (tl L) rfl rfl 23 (tl zT) (heap_alloc_last w1 _) (talIk hTL) (by rw [tl_size zT_tal, tl_size hTL]) (tl_all _) ?_)
  rw [World.setRow_alloc_new]
  have hn2 := heap_alloc_last w1 (.cells (tl L) 23)
  have hl2 := below_al w1 (.cells (tl L) 23)
  generalize w1.alloc (.cells (tl L) 23) = w2 at hn2 hl2 ⊢
  have HB2 := Lib.hid (HB1.out.trans (hl2.mono HB1.out.size))
  clear hl2 HB1
  go_upto_region 12 with fail
  go_cut [3] (fun s wx => s = .int .i64 A ∧ wx = w2)
  case first =>
    go_wp2
    all_goals go_meet
    all_goals
      refine ⟨?_, rfl⟩
      congr 1
      have := HA.out
      omega
  case rest =>
    obtain ⟨rfl, hwc⟩ := hcut
    obtain rfl : w2 = wc := hwc.symm
    have hS2 := HS.out.below HB2.out
    have hl1 : (q.take A).length = A := by rw [List.length_take, HL.out]; omega
    have hl2' : (q.drop A).length = n - A := by rw [List.length_drop, HL.out]
    have hof1 := of_call sp A c (q.take A) w2 hl1 (src_take hS2 A) (by omega)
    have hsy1 : Sy (q.take A) := fun z hz => HQ.out z (List.mem_of_mem_take hz)
    have ho1 := (z_ok (q.take A) (by omega)).2 hsy1
    have hTM := addV_tal zT_tal (q.take A) (by omega)
    rw [(add_yes ho1).2] at hof1
    have hV1 : VT (addV zT (q.take A)) := by rw [(add_yes ho1).1]; exact ho1.2.2
    have hML : addN (addV zT (q.take A)) (q.drop A) = L := by rw [(add_yes ho1).1, ← addN_app, List.take_append_drop, HLD.out]
    generalize addV zT (q.take A) = M at hof1 hTM hV1 hML
    have ho2 : addOk M (q.drop A) := ⟨hV1, fun z hz => HQ.out z (List.mem_of_mem_drop hz), by rw [hML, HLD.out]; exact addN_z_vt q (by rw [HL.out]; omega)⟩
    have had := fun (W : World) (hW : Below w2.heap.size w2 W) => add_call M hTM (restA sp c A) (n - A) (c - A) (q.drop A) W hl2' ((restA_src HL.out hS2 hAn hlc).below hW) (by omega)
    rw [(add_yes ho2).2, (add_yes ho2).1, hML] at had
    have HAD := Lib.hid had
    clear had ho2 ho1 hsy1 hl1 hl2' hV1 hS2 hML
    go_wp2_with fail
    refine hof1.mono ?_
    rintro e w3 ⟨rfl, hb3⟩
    have hn3 := heap_on hb3 hn2
    have HC3 := Lib.hid hb3
    clear hb3 hof1 hn2
    go_upto_region 14 with (refine wpList_store_row rfl 23 _ _ rfl w3.heap.size (tl M) rfl rfl 23 (tl zT) (heap_alloc_last w3 _) (talIk hTM) (by rw [tl_size zT_tal, tl_size hTM]) (tl_all _) ?_)
    rw [World.setRow_alloc_new]
    have hm4 := heap_alloc_last w3 (.cells (tl M) 23)
    have hl4 := below_al w3 (.cells (tl M) 23)
    generalize w3.alloc (.cells (tl M) 23) = w4 at hm4 hl4 ⊢
    have hn4 := heap_on hl4 hn3
    have HC4 := Lib.hid (HC3.out.trans (hl4.mono HC3.out.size))
    clear hl4 hn3 HC3
    go_cut [16, 17] (fun s16 s17 wx => ∃ g, s16 = .pointer (some ⟨g, 0, none⟩) ∧ s17 = .int .i64 0 ∧ wx.heap[g]? = some (.cells (tl L) 23 (0, 0)) ∧ Below w4.heap.size w4 wx)
    case first =>
      obtain ⟨cM, hcM⟩ : ∃ cM, cM = (tl M).toList := ⟨_, rfl⟩
      obtain ⟨cL, hcL⟩ : ∃ cL, cL = (tl L).toList := ⟨_, rfl⟩
      have eM : tl M = cM.toArray := by rw [hcM]
      have eL : tl L = cL.toArray := by rw [hcL]
      have lM : cM.length = 258 := by rw [hcM, Array.length_toList, tl_size hTM]
      have lL : cL.length = 258 := by rw [hcL, Array.length_toList, tl_size hTL]
      have h1 : ∀ v ∈ cL, v.oneCell' = true := fun v hv => Array.all_eq_true_iff_forall_mem.1 (tl_all L) v (by rw [hcL] at hv; simpa using hv)
      have hu := talU
      have hiM : (Try.prog.info? 23).map (·.size) = some cM.length := by rw [lM]; exact talI
      have hiL : (Try.prog.info? 23).map (·.size) = some cL.length := by rw [lL]; exact talI
      have had2 := eM ▸ eL ▸ HAD.out
      have HST := Lib.hid (fun (W : World) (g : Nat) (hg : W.heap[g]? = some (.cells (tl zT) 23 (0, 0))) => setCells_row W g hg L hTL)
      rw [hcL.symm] at HST
      have hS0 : w4.drew.rangeAt w3.heap.size 0 cM := hcM ▸ range_row (w := w4.drew) hm4
      have ht0 : (w4.drew.alloc (.cells (tl zT) 23)).there w4.heap.size 0 258 := there_row (heap_alloc_last w4.drew _)
      have hne4 : w3.heap.size ≠ w4.heap.size := Nat.ne_of_lt (Array.getElem?_eq_some_iff.1 hm4).1
      have hne4' : ¬ w4.drew.heap.size ≤ w3.heap.size := Nat.not_le.2 (Array.getElem?_eq_some_iff.1 hm4).1
      clear hn4 hm4 hcM hcL eM eL HAD
      by_cases hcA : c = A
      · have hnA : n = A := by omega
        subst hcA
        subst hnA
        rw [show restA sp n n = sp from if_pos rfl, Nat.sub_self] at had2
        have HAD2 := Lib.hid had2
        clear had2
        go_upto_region 14 with fail
        go_region_held3 (fun W => W.rangeAt w3.heap.size 0 cM) (first | exact hS0 | exact hS5 | exact range_on hS0 (below_al _ _) | exact range_on hS5 (below_al _ _) | exact World.rangeAt_setCells_apart hS5 _ _ _ (Or.inl hne4) | exact World.rangeAt_setCells_apart (range_on hS5 (below_al _ _)) _ _ _ (Or.inl hne5))
          (first
            | (go_at_call 10; refine (HAD2.out _ HC4.out.drew).mono ?_; rintro e w5 ⟨rfl, hb5⟩; have hS5 := range_on hS0 hb5; have ht5 : (w5.alloc (.cells (tl zT) 23)).there w5.heap.size 0 258 := there_row (heap_alloc_last w5 _); have hne5 : w3.heap.size ≠ w5.heap.size := (fun e => hne4' (e ▸ hb5.size)); have HB5 := Lib.hid hb5)
            | (go_at_call 10; refine (HAD2.out _ (HC4.out.drew.alloc HC4.out.size (.cells (tl zT) 23))).mono ?_; rintro e w5 ⟨rfl, hb5⟩; have hS5 := range_on (range_on hS0 (below_al _ (.cells (tl zT) 23))) hb5; have ht5 := there_on ht0 hb5; have HZ5 := Lib.hid (show w5.heap[w4.heap.size]? = some (.cells (tl zT) 23 (0, 0)) from heap_on hb5 (heap_alloc_last w4.drew (.cells (tl zT) 23))); have HB5 := Lib.hid hb5))
        · go_wp2
          go_meet
          refine ⟨_, rfl, rfl, ?_, ?_⟩
          · show ((w5.alloc (.cells (tl zT) 23)).setCells w5.heap.size 0 cL).heap[w5.heap.size]? = _
            rw [HST.out _ _ (heap_alloc_last w5 _)]
            exact setRow_heap _ _ _ _ _ _ (heap_alloc_last w5 _)
          · show Below w4.heap.size w4 ((w5.alloc (.cells (tl zT) 23)).setCells w5.heap.size 0 cL)
            rw [HST.out _ _ (heap_alloc_last w5 _)]
            exact (((Below.refl _ w4).drew.trans HB5.out).alloc HB5.out.size _).setRow HB5.out.size _
        · go_wp2
          go_meet
          refine ⟨_, rfl, rfl, ?_, ?_⟩
          · show (w5.setCells w4.heap.size 0 cL).heap[w4.heap.size]? = _
            rw [HST.out _ _ HZ5.out]
            exact setRow_heap _ _ _ _ _ _ HZ5.out
          · show Below w4.heap.size w4 (w5.setCells w4.heap.size 0 cL)
            rw [HST.out _ _ HZ5.out]
            exact (((Below.refl _ w4).drew.alloc (Nat.le_refl _) (.cells (tl zT) 23)).trans (HB5.out.mono (by simp))).setRow (Nat.le_refl _) _
      · rw [show restA sp c A = Option.map (fun x => x.add A) sp from if_neg hcA] at had2
        have HAD2 := Lib.hid had2
        clear had2
        go_upto_region 14 with fail
        go_region_held3 (fun W => W.rangeAt w3.heap.size 0 cM) (first | exact hS0 | exact hS5 | exact range_on hS0 (below_al _ _) | exact range_on hS5 (below_al _ _) | exact World.rangeAt_setCells_apart hS5 _ _ _ (Or.inl hne4) | exact World.rangeAt_setCells_apart (range_on hS5 (below_al _ _)) _ _ _ (Or.inl hne5))
          (first
            | (go_at_call 10; refine (HAD2.out _ HC4.out.drew).mono ?_; rintro e w5 ⟨rfl, hb5⟩; have hS5 := range_on hS0 hb5; have ht5 : (w5.alloc (.cells (tl zT) 23)).there w5.heap.size 0 258 := there_row (heap_alloc_last w5 _); have hne5 : w3.heap.size ≠ w5.heap.size := (fun e => hne4' (e ▸ hb5.size)); have HB5 := Lib.hid hb5)
            | (go_at_call 10; refine (HAD2.out _ (HC4.out.drew.alloc HC4.out.size (.cells (tl zT) 23))).mono ?_; rintro e w5 ⟨rfl, hb5⟩; have hS5 := range_on (range_on hS0 (below_al _ (.cells (tl zT) 23))) hb5; have ht5 := there_on ht0 hb5; have HZ5 := Lib.hid (show w5.heap[w4.heap.size]? = some (.cells (tl zT) 23 (0, 0)) from heap_on hb5 (heap_alloc_last w4.drew (.cells (tl zT) 23))); have HB5 := Lib.hid hb5))
        · go_wp2
          go_meet
          refine ⟨_, rfl, rfl, ?_, ?_⟩
          · show ((w5.alloc (.cells (tl zT) 23)).setCells w5.heap.size 0 cL).heap[w5.heap.size]? = _
            rw [HST.out _ _ (heap_alloc_last w5 _)]
            exact setRow_heap _ _ _ _ _ _ (heap_alloc_last w5 _)
          · show Below w4.heap.size w4 ((w5.alloc (.cells (tl zT) 23)).setCells w5.heap.size 0 cL)
            rw [HST.out _ _ (heap_alloc_last w5 _)]
            exact (((Below.refl _ w4).drew.trans HB5.out).alloc HB5.out.size _).setRow HB5.out.size _
        · go_wp2
          go_meet
          refine ⟨_, rfl, rfl, ?_, ?_⟩
          · show (w5.setCells w4.heap.size 0 cL).heap[w4.heap.size]? = _
            rw [HST.out _ _ HZ5.out]
            exact setRow_heap _ _ _ _ _ _ HZ5.out
          · show Below w4.heap.size w4 (w5.setCells w4.heap.size 0 cL)
            rw [HST.out _ _ HZ5.out]
            exact (((Below.refl _ w4).drew.alloc (Nat.le_refl _) (.cells (tl zT) 23)).trans (HB5.out.mono (by simp))).setRow (Nat.le_refl _) _
    case rest =>
      obtain ⟨G, rfl, rfl, hg5, hb5⟩ := hcut
      have hn5 := heap_on hb5 hn4
      have hm5 := heap_on hb5 hm4
      have HC5 := Lib.hid (HC4.out.trans (hb5.mono HC4.out.size))
      clear hb5 hn4 hm4 HC4 HAD
      have hne : ∀ w : World, (Op.equalIn 10000 23 (.agg (tl L)) (.agg (tl L))).run Try.prog w = .ok true w := fun w => by rw [run_eqi_tal w hTL hTL, decide_eq_true rfl]
      go_wp2_with (first
        | (refine wpList_load_row_g 6 false rfl 94 rfl _ rfl rfl 23 _ rfl G rfl 23 (tl L) (0, 0) _ hg5 Try.underlying23 rfl (talIk hTL) ?_)
        | (refine wpList_load_row_g 6 false rfl 94 rfl _ rfl rfl 23 _ rfl w1.heap.size rfl 23 (tl L) (0, 0) _ hn5 Try.underlying23 rfl (talIk hTL) ?_)
        | (refine wpList_load_row_g 11 false rfl 99 rfl _ rfl rfl 23 _ rfl w1.heap.size rfl 23 (tl L) (0, 0) _ hn5 Try.underlying23 rfl (talIk hTL) ?_))
      refine (hsm _).mono ?_
      rintro e w6 ⟨rfl, hb6⟩
      have hn6 := heap_on hb6 hn5
      have hm6 := heap_on hb6 hm5
      have HC6 := Lib.hid (HC5.out.trans (hb6.mono HC5.out.size))
      have HB6 := Lib.hid (HB2.out.trans (HC6.out.mono HB2.out.size))
      clear hsm hb6 hn5 hm5 HC5 hg5 HC6 HB2
      by_cases h0 : n = 0
      · subst h0
        have hLz : L = zT := by rw [HLD.out, List.eq_nil_of_length_eq_zero HL.out]; rfl
        have hez : ∀ w : World, (Op.equalIn 10000 23 (.agg (tl L)) (.agg (tl zT))).run Try.prog w = .ok true w := fun w => by rw [hLz, run_eqi_tal w zT_tal zT_tal, decide_eq_true rfl]
        clear hLz hne
        go_wp2_with (first
          | (refine wpList_load_row rfl 23 _ rfl w1.heap.size rfl 23 (tl L) (0, 0) _ hn6 Try.underlying23 rfl (talIk hTL) ?_)
          | (refine wpList_zeroT rfl rfl ?_))
        refine (wakes_call _).mono ?_
        rintro e w7 ⟨rfl, hb7⟩
        have HB7 := Lib.hid (HB6.out.trans (hb7.mono HB6.out.size))
        clear hb7
        go_wp2_with fail
        go_ret
        exact ⟨rfl, HB7.out⟩
      · have hap := fun (a2 : Option Addr) (c2 : Nat) => (HS.out.below HB6.out).below (below_al w6 (.cells #[] 3))
        have HSR := Lib.hid ((HS.out.below HB6.out).below (below_al w6 (.cells #[] 3)))
        clear hap
        go_upto_region 20 with (
          refine wpList_appendW rfl _ _ 24 rfl 3 .i64 8 intsT intI (some ⟨w6.heap.size, 0, none⟩) 0 [] 0 rfl rfl (WinS.empty w6 .i64 3) sp n c rfl q HL.out HSR.out (by unfold maxLen; omega) (by omega) ?_
          intro a2 c2 w7 h1 h2 h3)
        rw [List.nil_append] at h1
        have hN0 : NewS w6 (w6.alloc (.cells #[] 3)) (some ⟨w6.heap.size, 0, none⟩) 0 [] := ⟨WinS.empty w6 .i64 3, fun g e => by cases e; exact Nat.le_refl _, below_al w6 _⟩
        have hN7 := hN0.app h1 h2 h3
        have hn7 := heap_on hN7.bel hn6
        have hm7 := heap_on hN7.bel hm6
        have HB7 := Lib.hid (HB6.out.trans (hN7.bel.mono HB6.out.size))
        have HW7 := Lib.hid hN7.win
        have HY7 := Lib.hid (fun (y : Nat) (e : blk a2 = some y) => hN7.new y e)
        have hlt1 : w1.heap.size < w6.heap.size := (Array.getElem?_eq_some_iff.1 hn6).1
        have hlt3 : w3.heap.size < w6.heap.size := (Array.getElem?_eq_some_iff.1 hm6).1
        have hwle := HB6.out.size
        clear h1 h2 h3 hN0 hN7 hn6 hm6 HB6 HSR
        obtain ⟨I, hI⟩ : ∃ I : Nat, (I : Int) = min (max i 0) (n - 1) := ⟨(min (max i 0) (n - 1)).toNat, by omega⟩
        obtain ⟨K, hK⟩ : ∃ K : Nat, (K : Int) = min (max k 0) (n - 1) := ⟨(min (max k 0) (n - 1)).toNat, by omega⟩
        have HI := Lib.hid hI
        have HKK := Lib.hid hK
        have hIn : I < n := by omega
        have hKn : K < n := by omega
        have hwr : IntKind.i64.wrap ((n : Int) - 1) = (n : Int) - 1 := by rw [IntKind.wrap_i64]; omega
        clear hI hK
        go_cut [1, 2] (fun s1 s2 wx => s1 = .int .i64 I ∧ s2 = .int .i64 K ∧ wx = w7)
        case first =>
          go_wp2
          all_goals go_meet
          all_goals
            refine ⟨?_, ?_, rfl⟩
            · congr 1
              have := HI.out
              omega
            · congr 1
              have := HKK.out
              omega
        case rest =>
          obtain ⟨rfl, rfl, hwc⟩ := hcut
          obtain rfl : w7 = wc := hwc.symm
          have hIq : I < q.length := by rw [HL.out]; exact hIn
          have hKq : K < q.length := by rw [HL.out]; exact hKn
          obtain ⟨g, o, rfl, ci⟩ := HW7.out.src.get (j := I) hIq
          obtain ⟨g', o', e, ck⟩ := HW7.out.src.get (j := K) hKq
          injection e with e
          injection e with e1 e2 _
          subst e1 e2
          have hrow : ∀ j, w7.frozen? ⟨g, j, none⟩ = false := fun j => by
            obtain ⟨cur, hcur⟩ := HW7.out.row rfl
            simp [World.frozen?, hcur]
          have fi := hrow (o + I)
          have fk := hrow (o + K)
          have hg6 : w6.heap.size ≤ g := HY7.out g rfl
          have hP := Lib.hid (exch_perm q I K hIq hKq)
          have hW8 := HW7.out.setAt I hIq (q.getD K 0)
          have ck8 := hW8.src.get (j := K) (by rw [List.length_set]; exact hKq)
          obtain ⟨g'', o'', e, ck8⟩ := ck8
          injection e with e
          injection e with e1 e2 _
          subst e1 e2
          have hW9 := hW8.setAt K (by rw [List.length_set]; exact hKq) (q.getD I 0)
          have hq2 : ((q.set I (q.getD K 0)).set K (q.getD I 0)).length = n := by rw [hP.out.length_eq]; exact HL.out
          have HW9 := Lib.hid hW9
          have HQ2 := Lib.hid hq2
          clear hrow hW8 hW9 hIq hKq hq2
          generalize hq2e : (q.set I (q.getD K 0)).set K (q.getD I 0) = q2 at hP HW9 HQ2
          generalize (q.set I (q.getD K 0)).getD K 0 = Z at ck8
          generalize q.getD I 0 = X at ci HW9 hq2e
          generalize q.getD K 0 = Y at ck ck8 HW9 hq2e
          clear hq2e
          have f8 : (w7.setCell ⟨g, o + I, none⟩ (.int .i64 Y)).frozen? ⟨g, o + K, none⟩ = false := by simpa using fk
          go_upto_region 21 with fail
          go_region
          have hb9 : Below w6.heap.size w7 (((w7.setCell ⟨g, o + I, none⟩ (.int .i64 Y)).setCell ⟨g, o + K, none⟩ (.int .i64 X)).drew) :=
            (((Below.refl _ _).setCell (p := ⟨g, o + I, none⟩) hg6 _).setCell (p := ⟨g, o + K, none⟩) hg6 _).drew
          have hn9 : (((w7.setCell ⟨g, o + I, none⟩ (.int .i64 Y)).setCell ⟨g, o + K, none⟩ (.int .i64 X)).drew).heap[w1.heap.size]? = some (.cells (tl L) 23 (0, 0)) := (hb9.block _ hlt1).trans hn7
          have hm9 : (((w7.setCell ⟨g, o + I, none⟩ (.int .i64 Y)).setCell ⟨g, o + K, none⟩ (.int .i64 X)).drew).heap[w3.heap.size]? = some (.cells (tl M) 23 (0, 0)) := (hb9.block _ hlt3).trans hm7
          have HB9 := Lib.hid (HB7.out.trans (hb9.mono hwle))
          have hW := Lib.hid (HW9.out.below (w' := ((w7.setCell ⟨g, o + I, none⟩ (.int .i64 Y)).setCell ⟨g, o + K, none⟩ (.int .i64 X)).drew) (Below.refl _ _).drew)
          clear hb9 HW9 HB7 hn7 hm7 ci ck ck8 fi fk f8
          generalize ((w7.setCell ⟨g, o + I, none⟩ (.int .i64 Y)).setCell ⟨g, o + K, none⟩ (.int .i64 X)).drew = w9 at hn9 hm9 HB9 hW ⊢
          have hsy2 : Sy q2 := fun z hz => HQ.out z (hP.out.mem_iff.1 hz)
          have ho9 := (z_ok q2 (by rw [HQ2.out]; omega)).2 hsy2
          have hof9 := of_call (some ⟨g, o, none⟩) n c2 q2 w9 HQ2.out hW.out.src (by omega)
          rw [(add_yes ho9).2, (add_yes ho9).1, addN_perm hP.out, ← HLD.out] at hof9
          clear hsy2 ho9 hW HW7
          go_wp2_with fail
          refine hof9.mono ?_
          rintro e w10 ⟨rfl, hb10⟩
          have hn10 := heap_on hb10 hn9
          have hm10 := heap_on hb10 hm9
          have HB10 := Lib.hid (HB9.out.trans (hb10.mono HB9.out.size))
          clear hof9 hb10 hn9 hm9 HB9
          go_upto_region 23 with (refine wpList_store_row rfl 23 _ _ rfl w10.heap.size (tl L) rfl rfl 23 (tl zT) (heap_alloc_last w10 _) (talIk hTL) (by rw [tl_size zT_tal, tl_size hTL]) (tl_all _) ?_)
          rw [World.setRow_alloc_new]
          have ho11 := heap_alloc_last w10 (.cells (tl L) 23)
          have hl11 := below_al w10 (.cells (tl L) 23)
          generalize w10.alloc (.cells (tl L) 23) = w11 at ho11 hl11 ⊢
          have hn11 := heap_on hl11 hn10
          have hm11 := heap_on hl11 hm10
          have HB11 := Lib.hid (HB10.out.trans (hl11.mono HB10.out.size))
          clear hl11 hn10 hm10 HB10 hz
          go_wp2_with (first
            | (refine wpList_load_row_g 2 true rfl 147 rfl _ rfl rfl 23 _ rfl w10.heap.size rfl 23 (tl L) (0, 0) _ ho11 Try.underlying23 rfl (talIk hTL) ?_)
            | (refine wpList_load_row_g 2 true rfl 147 rfl _ rfl rfl 23 _ rfl w1.heap.size rfl 23 (tl L) (0, 0) _ hn11 Try.underlying23 rfl (talIk hTL) ?_)
            | (refine wpList_load_row_g 7 true rfl 152 rfl _ rfl rfl 23 _ rfl w10.heap.size rfl 23 (tl L) (0, 0) _ ho11 Try.underlying23 rfl (talIk hTL) ?_)
            | (refine wpList_load_row_g 7 true rfl 152 rfl _ rfl rfl 23 _ rfl w1.heap.size rfl 23 (tl L) (0, 0) _ hn11 Try.underlying23 rfl (talIk hTL) ?_)
            | (refine wpList_load_row_g 7 true rfl 152 rfl _ rfl rfl 23 _ rfl w3.heap.size rfl 23 (tl M) (0, 0) _ hm11 Try.underlying23 rfl (talIk hTM) ?_))
          refine wp_tals3 _ _ _ rfl L L M hTL hTL hTM rfl rfl rfl ?_
          intro cells hsrc
          have hdd := diff_call _ 3 3 [L, L, M] _ rfl hsrc (by omega)
          have hl12 := below_al w11 (.cells cells 23)
          have HB12 := Lib.hid (HB11.out.trans (hl12.mono HB11.out.size))
          have hd2 := dst_two L M
          generalize (dst [L, L, M]).length = DL at hdd hd2
          generalize w11.alloc (.cells cells 23) = w12 at hdd hl12 HB12 ⊢
          clear hsrc hl12 ho11 hn11 hm11 HB11
          go_wp2_with fail
          refine hdd.mono ?_
          rintro e w13 ⟨rfl, hb13⟩
          have HB13 := Lib.hid (HB12.out.trans (hb13.mono HB12.out.size))
          have hd3 : decide ((DL : Int) ≤ 2) = true := decide_eq_true (by omega)
          clear hdd hb13 HB12
          go_wp2_with fail
          refine (wakes_call _).mono ?_
          rintro e w14 ⟨rfl, hb14⟩
          have HB14 := Lib.hid (HB13.out.trans (hb14.mono HB13.out.size))
          clear hb14 HB13
          go_wp2_with fail
          go_ret
          exact ⟨rfl, HB14.out⟩
end Go.Proofs.Ytlbgnichgjancaa
