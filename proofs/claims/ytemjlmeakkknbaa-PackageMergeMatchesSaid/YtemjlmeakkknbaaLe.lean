/- Lengths of package packagemerge. -/
import Derived.Test.YtemjlmeakkknbaaLi
set_option linter.unusedVariables false
set_option linter.unusedSimpArgs false
namespace Go.Proofs.Ytemjlmeakkknbaa
open Go.RowKit Go.Sort

/-- A whole row and a slot as the results. -/
theorem results_cell_tmp {P : Program} {fn : Func} {p q : Tmp} {ty : TypeId} (h : fn.results = #[.cell p ty, .tmp q]) (tmps : Array Value) (w : World) (g : Nat) (t : TypeId) (cs : Array Value) (fr : Nat × Nat) (d : TypeDesc) (v : Value)
    (hp : tmps.getD p undef = .pointer (some ⟨g, 0, none⟩)) (hq : tmps.getD q undef = v) (hg : w.heap[g]? = some (.cells cs t fr))
    (hu : P.underlying ty = some d) (hd : (match d with | .struct _ | .array _ _ => true | _ => false) = true) (hi : (P.info? ty).map (·.size) = some cs.size) :
    (results fn tmps).run P w = .ok (.tuple #[.agg cs, v]) w := by
  have hp' : tmps[p]?.getD undef = .pointer (some ⟨g, 0, none⟩) := by simpa using hp
  have hq' : tmps[q]?.getD undef = v := by simpa using hq
  simp [results, h, hp', hq', asAddr, run_loadVar_row w g t ty cs fr d hg hu hd hi]
/-- Lengths answers OK. -/
def LOk (l : List Int) (L : Int) : Prop := VT l ∧ 1 ≤ L ∧ L ≤ 15 ∧ (lvT l).length ≤ 2 ^ L.toNat
instance (l : List Int) (L : Int) : Decidable (LOk l L) := inferInstanceAs (Decidable (_ ∧ _ ∧ _ ∧ _))
def lenQ (l : List Int) (L : Int) : List Int := if LOk l L then (List.range l.length).map (fun s => ((lenV l L.toNat s : Nat) : Int)) else zL
def lenE (l : List Int) (L : Int) : Int := if LOk l L then 0 else 2
theorem lenQ_is {l : List Int} (hl : l.length = 258) {L : Int} (h : LOk l L) : Is (fun s => lenV l L.toNat s) (lenQ l L) := by
  unfold lenQ
  rw [if_pos h]
  refine ⟨by rw [List.length_map, List.length_range, hl], fun s hs => ?_⟩
  rw [List.getD_eq_getElem?_getD, List.getElem?_map, List.getElem?_range (by rw [hl]; exact hs)]
  rfl
theorem lenQ_no {l : List Int} {L : Int} (h : ¬ LOk l L) : lenQ l L = zL ∧ lenE l L = 2 := ⟨if_neg h, if_neg h⟩
theorem lenE_ok {l : List Int} {L : Int} (h : LOk l L) : lenE l L = 0 := if_pos h
theorem lvT_sy (l : List Int) (hl : l.length = 258) : Sy (lvT l) := fun x hx => by
  obtain ⟨s, h1, h2, _, _⟩ := lvT_mem hx
  omega
theorem lvT_w {l : List Int} (hv : VT l) : ∀ x ∈ lvT l, 0 ≤ x.2 ∧ x.2 ≤ 2147483647 := fun x hx => by
  obtain ⟨s, _, _, h3, h4⟩ := lvT_mem hx
  have := hv.get s
  omega
/-- lengthsOf at the leaves of a tally. -/
theorem lengthsOf_call (l : List Int) (h : Tal l) (L : Int) (hok : LOk l L) (A0 : Option Nat) (n c0 : Nat) (hn : n = (lvT l).length) (w : World) (ho : OwnI w A0 c0 (lvT l)) :
    Calls Try.prog 21 #[.slice (ad0 A0) n c0, .int .i64 L] w fun e w' => e = .returned (.agg (lg (lenQ l L))) ∧ Below w.heap.size w w' := by
  obtain ⟨hv, h1, h15, hr⟩ := hok
  have hq := lenQ_is h.1 ⟨hv, h1, h15, hr⟩
  have hle := lvT_le l
  rw [h.1] at hle
  by_cases h2 : n < 2
  · refine (lengths_few A0 n c0 L (lvT l) hn h2 (lvT_sy l h.1) w ho).mono ?_
    rintro e w' ⟨q, rfl, hi, hb⟩
    refine ⟨?_, hb⟩
    rw [(hi.congr fun s _ => ?_).eq hq]
    show cntS (lvT l) s = lenV l L.toNat s
    unfold lenV lnV
    rw [if_pos (by omega)]
  · obtain ⟨k, rfl⟩ : ∃ k : Nat, L = k := ⟨L.toNat, by omega⟩
    rw [Int.toNat_natCast] at hr
    refine (lengths_many A0 n c0 k (lvT l) hn (by omega) (by omega) (by omega) (by omega) (by omega) (lvT_sy l h.1) (lvT_lvs l) (lvT_w hv) w ho).mono ?_
    rintro e w' ⟨q, rfl, hi, hb⟩
    refine ⟨?_, hb⟩
    rw [(hi.congr fun s _ => ?_).eq hq]
    show lnC (lvT l) (k - 1) (2 * n - 2) s = lenV l (k : Int).toNat s
    unfold lenV lnV
    rw [if_neg (by omega), Int.toNat_natCast, hn]

set_option maxRecDepth 100000 in
set_option maxHeartbeats 2000000 in
theorem lengths_call (l : List Int) (h : Tal l) (L : Int) (hL : -9223372036854775808 ≤ L ∧ L ≤ 9223372036854775807) (w : World) :
    Calls Try.prog 8 #[.agg (tl l), .int .i64 L] w fun e w' => e = .returned (.tuple #[.agg (lg (lenQ l L)), .int .i64 (lenE l L)]) ∧ Below w.heap.size w w' := by
  have hz := lngZ
  go_enter Try.func8, Try.ntmps8
  go_upto_region 1 with fail
  have hg := heap_alloc2_old w (.cells (tl l) 23) (.cells (lg zL) 25)
  have hg2 := heap_alloc2_new w (.cells (tl l) 23) (.cells (lg zL) 25)
  have hb : Below w.heap.size w ((w.alloc (.cells (tl l) 23)).alloc (.cells (lg zL) 25)) := ((Below.refl _ _).alloc (Nat.le_refl _) _).alloc (by simp) _
  generalize (w.alloc (.cells (tl l) 23)).alloc (.cells (lg zL) 25) = w1 at hg hg2 hb ⊢
  have hvc := valid_call l h w1
  by_cases hv : VT l
  · rw [decide_eq_true hv] at hvc
    by_cases h1 : L < 1
    · obtain ⟨e1, e2⟩ := lenQ_no (l := l) (L := L) (fun hk => by have := hk.2.1; omega)
      have E1 := Lib.hid e1
      have E2 := Lib.hid e2
      clear e1 e2
      go_wp2_with (first
        | (refine wpList_load_row rfl 23 _ rfl w.heap.size rfl 23 (tl l) (0, 0) _ hg Try.underlying23 rfl (talIk h) ?_)
        | (with_reducible refine hvc.mono ?_; rintro e w2 ⟨rfl, hb2⟩
           have hr2 := heap_on hb2 hg2)
        | (refine wpList_store_row rfl 25 _ _ rfl (w.heap.size + 1) (lg zL) rfl rfl 25 (lg zL) hr2 (lngIk zL_lng) rfl (lg_all _) ?_))
      refine bodyPost_ret (v := .tuple #[.agg (lg zL), .int .i64 2]) ?_ rfl ⟨by rw [E1.out, E2.out], (hb.trans (hb2.mono hb.size)).setRow (by omega) _⟩
      exact results_cell_tmp Try.results8 _ _ (w.heap.size + 1) 25 (lg zL) (0, 0) _ _ rfl rfl (setRow_heap _ _ _ _ _ _ hr2) Try.underlying25 rfl (lngIk zL_lng)
    · by_cases h15 : 15 < L
      · obtain ⟨e1, e2⟩ := lenQ_no (l := l) (L := L) (fun hk => by have := hk.2.2.1; omega)
        have E1 := Lib.hid e1
        have E2 := Lib.hid e2
        clear e1 e2
        go_wp2_with (first
          | (refine wpList_load_row rfl 23 _ rfl w.heap.size rfl 23 (tl l) (0, 0) _ hg Try.underlying23 rfl (talIk h) ?_)
          | (with_reducible refine hvc.mono ?_; rintro e w2 ⟨rfl, hb2⟩
             have hr2 := heap_on hb2 hg2)
          | (refine wpList_store_row rfl 25 _ _ rfl (w.heap.size + 1) (lg zL) rfl rfl 25 (lg zL) hr2 (lngIk zL_lng) rfl (lg_all _) ?_))
        refine bodyPost_ret (v := .tuple #[.agg (lg zL), .int .i64 2]) ?_ rfl ⟨by rw [E1.out, E2.out], (hb.trans (hb2.mono hb.size)).setRow (by omega) _⟩
        exact results_cell_tmp Try.results8 _ _ (w.heap.size + 1) 25 (lg zL) (0, 0) _ _ rfl rfl (setRow_heap _ _ _ _ _ _ hr2) Try.underlying25 rfl (lngIk zL_lng)
      · obtain ⟨k, rfl⟩ : ∃ k : Nat, L = k := ⟨L.toNat, by omega⟩
        have hlc := fun w => leaves_call l h hv w
        have hle := lvT_le l
        rw [h.1] at hle
        have hpw : 2 ^ k ≤ 2 ^ 15 := Nat.pow_le_pow_right (by omega) (by omega)
        have hpw2 : (2 : Int) ^ k ≤ 32768 := by
          have e : (((2 ^ k : Nat)) : Int) = (2 : Int) ^ k := by simp
          rw [← e]
          omega
        have hpw0 : (0 : Int) ≤ (2 : Int) ^ k := Int.pow_nonneg (by omega)
        obtain ⟨P, hP⟩ : ∃ P : Int, P = (2 : Int) ^ k := ⟨_, rfl⟩
        have hwp : wrap64 ((2 : Int) ^ k) = P := by rw [hP]; unfold wrap64; omega
        have HP := Lib.hid (show P = ((2 ^ k : Nat) : Int) by rw [hP]; simp)
        have HLO := Lib.hid (fun hx : (lvT l).length ≤ 2 ^ k => lengthsOf_call l h k ⟨hv, by omega, by omega, hx⟩)
        obtain ⟨n, hn⟩ : ∃ n, n = (lvT l).length := ⟨_, rfl⟩
        have HN := Lib.hid hn
        rw [← hn] at hle
        have hlc2 : ∀ w : World, Calls Try.prog 20 #[.agg (tl l)] w fun e w' => ∃ A c, e = .returned (.slice (ad0 A) n c) ∧ NewI w w' A c (lvT l) := by rw [hn]; exact hlc
        clear hn hlc hpw hpw2 hpw0 hP
        go_upto_region 4 with (first
          | (refine wpList_load_row rfl 23 _ rfl w.heap.size rfl 23 (tl l) (0, 0) _ (by assumption) Try.underlying23 rfl (talIk h) ?_)
          | (with_reducible refine hvc.mono ?_; rintro e w2 ⟨rfl, hb2⟩
             have hgw := heap_on hb2 hg
             have hr2 := heap_on hb2 hg2
             clear hvc hg)
          | (with_reducible refine (hlc2 _).mono ?_; rintro e w3 ⟨A, c, rfl, hni⟩))
        have hr3 := heap_on hni.bel hr2
        have HB3 := Lib.hid ((hb.trans (hb2.mono hb.size)).trans (hni.bel.mono (hb.trans (hb2.mono hb.size)).size))
        have HNI := Lib.hid hni
        clear hni hb2 hb hr2 hgw
        by_cases hfit : n ≤ 2 ^ k
        · have hnP : ¬ P < (n : Int) := by rw [HP.out]; omega
          have hok : LOk l k := ⟨hv, by omega, by omega, by rw [Int.toNat_natCast, ← HN.out]; exact hfit⟩
          have HE := Lib.hid (lenE_ok hok)
          have hlq : Lng (lenQ l k) := (lenQ_is h.1 hok).lng (fun s _ => by
            have := lenV_le (l := l) (L := k) (by omega) (by rw [← HN.out]; exact hfit) s
            rw [Int.toNat_natCast]
            omega)
          have hcall := HLO.out (by rw [← HN.out]; exact hfit) A n c HN.out w3 HNI.out.own
          obtain ⟨Q, hQ⟩ : ∃ Q, Q = lenQ l k := ⟨_, rfl⟩
          have HQE := Lib.hid hQ
          rw [← hQ] at hlq hcall
          clear hok hQ
          go_wp2_with (first
            | (with_reducible refine hcall.mono ?_; rintro e w4 ⟨rfl, hb4⟩
               have hr4 := heap_on hb4 hr3)
            | (refine wpList_store_row rfl 25 _ _ rfl (w.heap.size + 1) (lg Q) rfl rfl 25 (lg zL) hr4 (lngIk hlq) (by rw [lg_size zL_lng, lg_size hlq]) (lg_all _) ?_))
          refine bodyPost_ret (v := .tuple #[.agg (lg Q), .int .i64 0]) ?_ rfl ⟨by rw [HE.out, ← HQE.out], (HB3.out.trans (hb4.mono HB3.out.size)).setRow (by omega) _⟩
          exact results_cell_tmp Try.results8 _ _ (w.heap.size + 1) 25 (lg Q) (0, 0) _ _ rfl rfl (setRow_heap _ _ _ _ _ _ hr4) Try.underlying25 rfl (lngIk hlq)
        · have hnP : P < (n : Int) := by rw [HP.out]; omega
          obtain ⟨e1, e2⟩ := lenQ_no (l := l) (L := k) (fun hk => by
            have := hk.2.2.2
            rw [Int.toNat_natCast, ← HN.out] at this
            exact hfit this)
          have E1 := Lib.hid e1
          have E2 := Lib.hid e2
          clear e1 e2
          go_wp2_with (refine wpList_store_row rfl 25 _ _ rfl (w.heap.size + 1) (lg zL) rfl rfl 25 (lg zL) hr3 (lngIk zL_lng) rfl (lg_all _) ?_)
          refine bodyPost_ret (v := .tuple #[.agg (lg zL), .int .i64 2]) ?_ rfl ⟨by rw [E1.out, E2.out], HB3.out.setRow (by omega) _⟩
          exact results_cell_tmp Try.results8 _ _ (w.heap.size + 1) 25 (lg zL) (0, 0) _ _ rfl rfl (setRow_heap _ _ _ _ _ _ hr3) Try.underlying25 rfl (lngIk zL_lng)
  · rw [decide_eq_false hv] at hvc
    obtain ⟨e1, e2⟩ := lenQ_no (l := l) (L := L) (fun hk => hv hk.1)
    have E1 := Lib.hid e1
    have E2 := Lib.hid e2
    clear e1 e2
    go_wp2_with (first
      | (refine wpList_load_row rfl 23 _ rfl w.heap.size rfl 23 (tl l) (0, 0) _ hg Try.underlying23 rfl (talIk h) ?_)
      | (with_reducible refine hvc.mono ?_; rintro e w2 ⟨rfl, hb2⟩
         have hr2 := heap_on hb2 hg2)
      | (refine wpList_store_row rfl 25 _ _ rfl (w.heap.size + 1) (lg zL) rfl rfl 25 (lg zL) hr2 (lngIk zL_lng) rfl (lg_all _) ?_))
    refine bodyPost_ret (v := .tuple #[.agg (lg zL), .int .i64 2]) ?_ rfl ⟨by rw [E1.out, E2.out], (hb.trans (hb2.mono hb.size)).setRow (by omega) _⟩
    exact results_cell_tmp Try.results8 _ _ (w.heap.size + 1) 25 (lg zL) (0, 0) _ _ rfl rfl (setRow_heap _ _ _ _ _ _ hr2) Try.underlying25 rfl (lngIk zL_lng)
end Go.Proofs.Ytemjlmeakkknbaa
