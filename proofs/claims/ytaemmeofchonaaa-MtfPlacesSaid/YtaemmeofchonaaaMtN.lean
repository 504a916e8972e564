/- Law MtfMatches out of the contracts (genmm.py). -/
import Derived.Test.YtaemmeofchonaaaMtB
set_option linter.unusedVariables false
set_option linter.unusedSimpArgs false
namespace Go.Proofs.Ytaemmeofchonaaa
open Go.RowKit

theorem len_cons {α : Type} {l : List α} {n : Nat} (h : l.length = n + 1) : ∃ a t, l = a :: t ∧ t.length = n := by
  cases l with
  | nil => cases h
  | cons a t => exact ⟨a, t, rfl, by simpa using h⟩
theorem len_nil {α : Type} {l : List α} (h : l.length = 0) : l = [] := List.eq_nil_of_length_eq_zero h
theorem rforth_at {q P : List Int} (hy : Byts q) {n : Nat} (hq : q.length = n) (hn : n ≤ 1000) (hP : fwV idL q = P) (a : Option Addr) (c : Nat) (W : World) (hs : Src W .u8 a q) :
    Calls Try.prog 18 #[.slice a n c] W fun e w' => ∃ v, e = .returned v ∧ IsU n P v w' ∧ Below W.heap.size W w' :=
  (rforth_call a n c q hq hy hn W hs).mono fun e w' ⟨A, c2, h1, h2, _, h3⟩ => ⟨_, h1, ⟨ad0 A, c2, rfl, by rw [← hP]; exact h2.src⟩, h3⟩
theorem rback_at {q P : List Int} (hy : Byts q) {n : Nat} (hq : q.length = n) (hn : n ≤ 1000) (hP : bkV idL q = P) (a : Option Addr) (c : Nat) (W : World) (hs : Src W .u8 a q) :
    Calls Try.prog 20 #[.slice a n c] W fun e w' => ∃ v, e = .returned v ∧ IsU n P v w' ∧ Below W.heap.size W w' :=
  (rback_call a n c q hq hy hn W hs).mono fun e w' ⟨A, c2, h1, h2, _, h3⟩ => ⟨_, h1, ⟨ad0 A, c2, rfl, by rw [← hP]; exact h2.src⟩, h3⟩

set_option maxRecDepth 100000 in
set_option maxHeartbeats 8000000 in
theorem matches_call (CN : MNewC) (CV : MValC) (CP : MPutC) (CT : MTakC) (CF : MFthC) (CB : MBckC) (CW : MWkC) (l : List Int) (h : Lst l) (c : Int) (hc : 0 ≤ c ∧ c ≤ 255) (m : Int) (hm : (Lit.int .i64 m).wf = true) (sp : Option Addr) (n cap : Nat) (q : List Int) (hq : q.length = n) (hn : n ≤ 9223372036854775807) (hy : Byts q) (w : World) (hs : Src w .u8 sp q) :
    Calls Try.prog 3 #[.agg (ll l), .int .u8 c, .int .i64 m, .slice sp n cap] w fun e w' => e = .returned (.bool true) ∧ Below w.heap.size w w' := by
  have HWK := Lib.hid (fun W => CW W)
  have HGL := Lib.hid (heap_alloc_last w (.cells (ll l) 23))
  have HB := Lib.hid ((Below.refl w.heap.size w).alloc (Nat.le_refl _) (.cells (ll l) 23))
  by_cases hbig : 400 < n
  · have d1 : decide ((400 : Int) < (n : Int)) = true := decide_eq_true (by omega)
    clear hs hq hy
    go_enter Try.func3, Try.ntmps3
    go_upto_region 1 with fail
    generalize w.alloc (.cells (ll l) 23) = w1 at HGL HB ⊢
    go_wp2_with (with_reducible refine (HWK.out _).mono ?_; rintro e z ⟨rfl, hb⟩)
    go_ret
    exact ⟨rfl, HB.out.trans (hb.mono HB.out.size)⟩
  have d1 : decide ((400 : Int) < (n : Int)) = false := decide_eq_false (by omega)
  have d2 : decide (400 < n) = false := decide_eq_false (by omega)
  have hz := lstZ
  have hz0 := ll_size zS_lst
  have hp1 := Lib.hid (fun W => CP l h c hc W)
  have hp2 := Lib.hid (fun W => rput_call l h c hc W)
  have hXL := ptV_lst h c
  have ht1 := Lib.hid (fun W => CT l h m hm W)
  have ht2 := Lib.hid (fun W => rtake_call l h m W)
  have hYL := tkR_lst h m
  have HV1 := Lib.hid (fun W => CV l h W)
  have HV2 := Lib.hid (fun W => rvalid_call l h W)
  have HN1 := Lib.hid (fun W => CN W)
  have HN2 := Lib.hid (fun W => rnew_call W)
  have HEI := Lib.hid (fun W => run_eqi_lst W idL_lst idL_lst)
  rw [decide_eq_true rfl] at HEI
  have HF1 := Lib.hid (fun W hs => forth_at CF hy hq (by omega) rfl sp cap W hs)
  have HF2 := Lib.hid (fun W hs => rforth_at hy hq (by omega) rfl sp cap W hs)
  have HB1 := Lib.hid (fun W hs => back_at CB hy hq (by omega) rfl sp cap W hs)
  have HB2 := Lib.hid (fun W hs => rback_at hy hq (by omega) rfl sp cap W hs)
  have hPL : (fwV idL q).length = n := by rw [fwV_len, hq]
  have hRL : (bkV idL q).length = n := by rw [bkV_len, hq]
  generalize fwV idL q = P at HF1 HF2 hPL
  generalize bkV idL q = R at HB1 HB2 hRL
  generalize decide l.Nodup = D at HV1 HV2
  generalize idL = IL at HN1 HN2 HEI
  obtain ⟨X, px, hX⟩ : ∃ X px, ptV l c = (X, px) := ⟨_, _, rfl⟩
  rw [hX] at hp1 hp2 hXL
  obtain ⟨Y, sy, ty, hY⟩ : ∃ Y sy ty, tkR l m = (Y, sy, ty) := ⟨_, _, _, rfl⟩
  rw [hY] at ht1 ht2 hYL
  have hsX := ll_size hXL
  have hsY := ll_size hYL
  have HEX := Lib.hid (fun W => run_eqi_lst W hXL hXL)
  have HEY := Lib.hid (fun W => run_eqi_lst W hYL hYL)
  rw [decide_eq_true rfl] at HEX HEY
  have HPL := Lib.hid hPL
  have HRL := Lib.hid hRL
  have HS := Lib.hid hs
  clear hX hY hPL hRL hs hq hy
  go_enter Try.func3, Try.ntmps3
  go_upto_region 1 with fail
  generalize w.alloc (.cells (ll l) 23) = w1 at HGL HB ⊢
  go_upto_region 3 with fail
  have hin := HGL.out
  go_upto_region 4 with (first
    | (refine wpList_load_row rfl 23 _ rfl w.heap.size rfl 23 (ll l) (0, 0) _ hin Try.underlying23 rfl (lstIk h) ?_)
    | ((with_reducible refine (hp1.out _).mono ?_); rintro e x1 ⟨rfl, hb⟩)
    | (refine wpList_store_row rfl 23 _ _ rfl x1.heap.size (ll X) rfl rfl 23 (ll zS) (heap_alloc_last x1 _) (lstIk hXL) (by rw [hz0, hsX]) (ll_all _) ?_))
  rw [World.setRow_alloc_new]
  try simp only [Act.put]
  have hby := hb.alloc (o := .cells (ll X) 23) hb.size
  have HGLN := Lib.hid (heap_on hby HGL.out)
  have Hg1 := Lib.hid (heap_alloc_last x1 (.cells (ll X) 23))
  have HBN := Lib.hid (HB.out.trans (hby.mono HB.out.size))
  replace HGL := HGLN
  clear HGLN
  replace HB := HBN
  clear HBN
  obtain ⟨g1, hg1⟩ : ∃ g1, g1 = x1.heap.size := ⟨_, rfl⟩
  rw [← hg1] at Hg1 ⊢
  clear hg1 hb hby hin
  generalize x1.alloc (.cells (ll X) 23) = y1 at HGL Hg1 HB ⊢
  have hin := HGL.out
  go_upto_region 5 with (first
    | (refine wpList_load_row rfl 23 _ rfl w.heap.size rfl 23 (ll l) (0, 0) _ hin Try.underlying23 rfl (lstIk h) ?_)
    | ((with_reducible refine (hp2.out _).mono ?_); rintro e x2 ⟨rfl, hb⟩)
    | (refine wpList_store_row rfl 23 _ _ rfl x2.heap.size (ll X) rfl rfl 23 (ll zS) (heap_alloc_last x2 _) (lstIk hXL) (by rw [hz0, hsX]) (ll_all _) ?_))
  rw [World.setRow_alloc_new]
  try simp only [Act.put]
  have hby := hb.alloc (o := .cells (ll X) 23) hb.size
  have HGLN := Lib.hid (heap_on hby HGL.out)
  have Hg1N := Lib.hid (heap_on hby Hg1.out)
  have Hg2 := Lib.hid (heap_alloc_last x2 (.cells (ll X) 23))
  have HBN := Lib.hid (HB.out.trans (hby.mono HB.out.size))
  replace HGL := HGLN
  clear HGLN
  replace Hg1 := Hg1N
  clear Hg1N
  replace HB := HBN
  clear HBN
  obtain ⟨g2, hg2⟩ : ∃ g2, g2 = x2.heap.size := ⟨_, rfl⟩
  rw [← hg2] at Hg2 ⊢
  clear hg2 hb hby hin
  generalize x2.alloc (.cells (ll X) 23) = y2 at HGL Hg1 Hg2 HB ⊢
  have hin := HGL.out
  go_upto_region 6 with (first
    | (refine wpList_load_row rfl 23 _ rfl w.heap.size rfl 23 (ll l) (0, 0) _ hin Try.underlying23 rfl (lstIk h) ?_)
    | ((with_reducible refine (ht1.out _).mono ?_); rintro e x3 ⟨rfl, hb⟩)
    | (refine wpList_store_row rfl 23 _ _ rfl x3.heap.size (ll Y) rfl rfl 23 (ll zS) (heap_alloc_last x3 _) (lstIk hYL) (by rw [hz0, hsY]) (ll_all _) ?_))
  rw [World.setRow_alloc_new]
  try simp only [Act.put]
  have hby := hb.alloc (o := .cells (ll Y) 23) hb.size
  have HGLN := Lib.hid (heap_on hby HGL.out)
  have Hg1N := Lib.hid (heap_on hby Hg1.out)
  have Hg2N := Lib.hid (heap_on hby Hg2.out)
  have Hg3 := Lib.hid (heap_alloc_last x3 (.cells (ll Y) 23))
  have HBN := Lib.hid (HB.out.trans (hby.mono HB.out.size))
  replace HGL := HGLN
  clear HGLN
  replace Hg1 := Hg1N
  clear Hg1N
  replace Hg2 := Hg2N
  clear Hg2N
  replace HB := HBN
  clear HBN
  obtain ⟨g3, hg3⟩ : ∃ g3, g3 = x3.heap.size := ⟨_, rfl⟩
  rw [← hg3] at Hg3 ⊢
  clear hg3 hb hby hin
  generalize x3.alloc (.cells (ll Y) 23) = y3 at HGL Hg1 Hg2 Hg3 HB ⊢
  have hin := HGL.out
  go_upto_region 7 with (first
    | (refine wpList_load_row rfl 23 _ rfl w.heap.size rfl 23 (ll l) (0, 0) _ hin Try.underlying23 rfl (lstIk h) ?_)
    | ((with_reducible refine (ht2.out _).mono ?_); rintro e x4 ⟨rfl, hb⟩)
    | (refine wpList_store_row rfl 23 _ _ rfl x4.heap.size (ll Y) rfl rfl 23 (ll zS) (heap_alloc_last x4 _) (lstIk hYL) (by rw [hz0, hsY]) (ll_all _) ?_))
  rw [World.setRow_alloc_new]
  try simp only [Act.put]
  have hby := hb.alloc (o := .cells (ll Y) 23) hb.size
  have HGLN := Lib.hid (heap_on hby HGL.out)
  have Hg1N := Lib.hid (heap_on hby Hg1.out)
  have Hg2N := Lib.hid (heap_on hby Hg2.out)
  have Hg3N := Lib.hid (heap_on hby Hg3.out)
  have Hg4 := Lib.hid (heap_alloc_last x4 (.cells (ll Y) 23))
  have HBN := Lib.hid (HB.out.trans (hby.mono HB.out.size))
  replace HGL := HGLN
  clear HGLN
  replace Hg1 := Hg1N
  clear Hg1N
  replace Hg2 := Hg2N
  clear Hg2N
  replace Hg3 := Hg3N
  clear Hg3N
  replace HB := HBN
  clear HBN
  obtain ⟨g4, hg4⟩ : ∃ g4, g4 = x4.heap.size := ⟨_, rfl⟩
  rw [← hg4] at Hg4 ⊢
  clear hg4 hb hby hin
  generalize x4.alloc (.cells (ll Y) 23) = y4 at HGL Hg1 Hg2 Hg3 Hg4 HB ⊢
  clear hz hp1 hp2 ht1 ht2 d1 d2
  have hpx : (px != px) = false := by simp
  have hsy : (sy != sy) = false := by simp
  go_upto_region 7 with fail
  go_cut [83] (fun s wx => s = .bool false ∧ Below y4.heap.size y4 wx)
  case first =>
    refine wp_region_frame (J := Js [eqv (.agg (ll X)), eqv (.agg (ll X)), eqv (.bool false), eqv (.bool false), eqv (.int .i64 px), eqv (.int .i64 px), eqv (.bool false), eqv (.bool false), eqv (.bool false), eqv (.agg (ll Y)), eqv (.agg (ll Y)), eqv (.bool false), eqv (.bool false), eqv (.bool false), eqv (.int .u8 sy), eqv (.int .u8 sy), eqv (.bool false), eqv (.bool false), eqv (.bool false), eqv (.bool ty), eqv (.bool ty), eqv (.bool false), eqv (.bool false), eqv (.bool false), eqv (.agg (ll l)), eqv (.bool D), eqv (.agg (ll l)), eqv (.bool D), eqv (.bool false), eqv (.bool false), eqv (.bool false), eqv (.agg (ll IL)), eqv (.agg (ll IL)), eqv (.bool false), eqv (.bool false)]) (ds := [49, 50, 51, 52, 53, 54, 55, 56, 57, 58, 59, 60, 61, 62, 63, 64, 65, 66, 67, 68, 69, 70, 71, 72, 73, 74, 75, 76, 77, 78, 79, 80, 81, 82, 83]) (N := 103)
      (B := [(4, .pointer (some ⟨w.heap.size, 0, none⟩)), (9, .pointer (some ⟨g1, 0, none⟩)), (10, .int .i64 px), (11, .pointer (some ⟨g2, 0, none⟩)), (12, .int .i64 px), (13, .pointer (some ⟨g3, 0, none⟩)), (14, .int .u8 sy), (15, .bool ty), (16, .pointer (some ⟨g4, 0, none⟩)), (17, .int .u8 sy), (18, .bool ty)]) (by kernel_rfl) (by kernel_rfl) (Js_mono ⟨eqv_mono _, eqv_mono _, eqv_mono _, eqv_mono _, eqv_mono _, eqv_mono _, eqv_mono _, eqv_mono _, eqv_mono _, eqv_mono _, eqv_mono _, eqv_mono _, eqv_mono _, eqv_mono _, eqv_mono _, eqv_mono _, eqv_mono _, eqv_mono _, eqv_mono _, eqv_mono _, eqv_mono _, eqv_mono _, eqv_mono _, eqv_mono _, eqv_mono _, eqv_mono _, eqv_mono _, eqv_mono _, eqv_mono _, eqv_mono _, eqv_mono _, eqv_mono _, eqv_mono _, eqv_mono _, eqv_mono _, trivial⟩) rfl rfl (by simp) ?_ ?_
    · refine ⟨?_, ?_, ?_, ?_, ?_, ?_, ?_, ?_, ?_, ?_, ?_, ?_, ?_, ?_, ?_, ?_, ?_, ?_, ?_, ?_, ?_, ?_, ?_, ?_, ?_, ?_, ?_, ?_, ?_, ?_, ?_, ?_, ?_, ?_, ?_, trivial⟩
      · intro a w' hb hdep K hK
        have c9 := hb.at 1 9 _ rfl
        clear hdep
        refine wp_load_row 23 _ rfl g1 (by simp [Act.eval, c9]) 23 (ll X) (0, 0) _ (heap_on hb.bel Hg1.out) Try.underlying23 rfl (lstIk hXL) ?_
        exact hK _ _ rfl (Below.refl _ _)
      · intro a w' hb hdep K hK
        have c11 := hb.at 3 11 _ rfl
        clear hdep
        refine wp_load_row 23 _ rfl g2 (by simp [Act.eval, c11]) 23 (ll X) (0, 0) _ (heap_on hb.bel Hg2.out) Try.underlying23 rfl (lstIk hXL) ?_
        exact hK _ _ rfl (Below.refl _ _)
      · intro a w' hb hdep K hK
        obtain ⟨v0, e0, j0⟩ := hdep 0 (by kernel_rfl)
        replace e0 : a.tmps[49]? = some v0 := e0
        obtain rfl : v0 = _ := j0
        obtain ⟨v1, e1, j1⟩ := hdep 1 (by kernel_rfl)
        replace e1 : a.tmps[50]? = some v1 := e1
        obtain rfl : v1 = _ := j1
        have heq := HEX.out
        clear hdep
        go_simp
        exact hK _ _ rfl (Below.refl _ _)
      · intro a w' hb hdep K hK
        obtain ⟨v2, e2, j2⟩ := hdep 2 (by kernel_rfl)
        replace e2 : a.tmps[51]? = some v2 := e2
        obtain rfl : v2 = _ := j2
        clear hdep
        go_simp
        exact hK _ _ rfl (Below.refl _ _)
      · intro a w' hb hdep K hK
        have c10 := hb.at 2 10 _ rfl
        obtain ⟨v3, e3, j3⟩ := hdep 3 (by kernel_rfl)
        replace e3 : a.tmps[52]? = some v3 := e3
        obtain rfl : v3 = _ := j3
        clear hdep
        go_simp
        exact hK _ _ rfl (Below.refl _ _)
      · intro a w' hb hdep K hK
        have c12 := hb.at 4 12 _ rfl
        obtain ⟨v3, e3, j3⟩ := hdep 3 (by kernel_rfl)
        replace e3 : a.tmps[52]? = some v3 := e3
        obtain rfl : v3 = _ := j3
        clear hdep
        go_simp
        exact hK _ _ rfl (Below.refl _ _)
      · intro a w' hb hdep K hK
        obtain ⟨v4, e4, j4⟩ := hdep 4 (by kernel_rfl)
        replace e4 : a.tmps[53]? = some v4 := e4
        obtain rfl : v4 = _ := j4
        obtain ⟨v5, e5, j5⟩ := hdep 5 (by kernel_rfl)
        replace e5 : a.tmps[54]? = some v5 := e5
        obtain rfl : v5 = _ := j5
        obtain ⟨v3, e3, j3⟩ := hdep 3 (by kernel_rfl)
        replace e3 : a.tmps[52]? = some v3 := e3
        obtain rfl : v3 = _ := j3
        clear hdep
        go_simp
        exact hK _ _ rfl (Below.refl _ _)
      · intro a w' hb hdep K hK
        obtain ⟨v3, e3, j3⟩ := hdep 3 (by kernel_rfl)
        replace e3 : a.tmps[52]? = some v3 := e3
        obtain rfl : v3 = _ := j3
        obtain ⟨v6, e6, j6⟩ := hdep 6 (by kernel_rfl)
        replace e6 : a.tmps[55]? = some v6 := e6
        obtain rfl : v6 = _ := j6
        clear hdep
        go_simp
        exact hK _ _ rfl (Below.refl _ _)
      · intro a w' hb hdep K hK
        obtain ⟨v7, e7, j7⟩ := hdep 7 (by kernel_rfl)
        replace e7 : a.tmps[56]? = some v7 := e7
        obtain rfl : v7 = _ := j7
        clear hdep
        go_simp
        exact hK _ _ rfl (Below.refl _ _)
      · intro a w' hb hdep K hK
        have c13 := hb.at 5 13 _ rfl
        obtain ⟨v8, e8, j8⟩ := hdep 8 (by kernel_rfl)
        replace e8 : a.tmps[57]? = some v8 := e8
        obtain rfl : v8 = _ := j8
        clear hdep
        refine wanted_row 8 false rfl 57 rfl (by assumption) 23 _ rfl g3 (by simp [Act.eval, c13]) 23 (ll Y) (0, 0) _ (heap_on hb.bel Hg3.out) Try.underlying23 rfl (lstIk hYL) ?_
        exact hK _ _ rfl (Below.refl _ _)
      · intro a w' hb hdep K hK
        have c16 := hb.at 8 16 _ rfl
        obtain ⟨v8, e8, j8⟩ := hdep 8 (by kernel_rfl)
        replace e8 : a.tmps[57]? = some v8 := e8
        obtain rfl : v8 = _ := j8
        clear hdep
        refine wanted_row 8 false rfl 57 rfl (by assumption) 23 _ rfl g4 (by simp [Act.eval, c16]) 23 (ll Y) (0, 0) _ (heap_on hb.bel Hg4.out) Try.underlying23 rfl (lstIk hYL) ?_
        exact hK _ _ rfl (Below.refl _ _)
      · intro a w' hb hdep K hK
        obtain ⟨v9, e9, j9⟩ := hdep 9 (by kernel_rfl)
        replace e9 : a.tmps[58]? = some v9 := e9
        obtain rfl : v9 = _ := j9
        obtain ⟨v10, e10, j10⟩ := hdep 10 (by kernel_rfl)
        replace e10 : a.tmps[59]? = some v10 := e10
        obtain rfl : v10 = _ := j10
        obtain ⟨v8, e8, j8⟩ := hdep 8 (by kernel_rfl)
        replace e8 : a.tmps[57]? = some v8 := e8
        obtain rfl : v8 = _ := j8
        have heq := HEY.out
        clear hdep
        go_simp
        exact hK _ _ rfl (Below.refl _ _)
      · intro a w' hb hdep K hK
        obtain ⟨v8, e8, j8⟩ := hdep 8 (by kernel_rfl)
        replace e8 : a.tmps[57]? = some v8 := e8
        obtain rfl : v8 = _ := j8
        obtain ⟨v11, e11, j11⟩ := hdep 11 (by kernel_rfl)
        replace e11 : a.tmps[60]? = some v11 := e11
        obtain rfl : v11 = _ := j11
        clear hdep
        go_simp
        exact hK _ _ rfl (Below.refl _ _)
      · intro a w' hb hdep K hK
        obtain ⟨v12, e12, j12⟩ := hdep 12 (by kernel_rfl)
        replace e12 : a.tmps[61]? = some v12 := e12
        obtain rfl : v12 = _ := j12
        clear hdep
        go_simp
        exact hK _ _ rfl (Below.refl _ _)
      · intro a w' hb hdep K hK
        have c14 := hb.at 6 14 _ rfl
        obtain ⟨v13, e13, j13⟩ := hdep 13 (by kernel_rfl)
        replace e13 : a.tmps[62]? = some v13 := e13
        obtain rfl : v13 = _ := j13
        clear hdep
        go_simp
        exact hK _ _ rfl (Below.refl _ _)
      · intro a w' hb hdep K hK
        have c17 := hb.at 9 17 _ rfl
        obtain ⟨v13, e13, j13⟩ := hdep 13 (by kernel_rfl)
        replace e13 : a.tmps[62]? = some v13 := e13
        obtain rfl : v13 = _ := j13
        clear hdep
        go_simp
        exact hK _ _ rfl (Below.refl _ _)
      · intro a w' hb hdep K hK
        obtain ⟨v14, e14, j14⟩ := hdep 14 (by kernel_rfl)
        replace e14 : a.tmps[63]? = some v14 := e14
        obtain rfl : v14 = _ := j14
        obtain ⟨v15, e15, j15⟩ := hdep 15 (by kernel_rfl)
        replace e15 : a.tmps[64]? = some v15 := e15
        obtain rfl : v15 = _ := j15
        obtain ⟨v13, e13, j13⟩ := hdep 13 (by kernel_rfl)
        replace e13 : a.tmps[62]? = some v13 := e13
        obtain rfl : v13 = _ := j13
        clear hdep
        go_simp
        exact hK _ _ rfl (Below.refl _ _)
      · intro a w' hb hdep K hK
        obtain ⟨v13, e13, j13⟩ := hdep 13 (by kernel_rfl)
        replace e13 : a.tmps[62]? = some v13 := e13
        obtain rfl : v13 = _ := j13
        obtain ⟨v16, e16, j16⟩ := hdep 16 (by kernel_rfl)
        replace e16 : a.tmps[65]? = some v16 := e16
        obtain rfl : v16 = _ := j16
        clear hdep
        go_simp
        exact hK _ _ rfl (Below.refl _ _)
      · intro a w' hb hdep K hK
        obtain ⟨v17, e17, j17⟩ := hdep 17 (by kernel_rfl)
        replace e17 : a.tmps[66]? = some v17 := e17
        obtain rfl : v17 = _ := j17
        clear hdep
        go_simp
        exact hK _ _ rfl (Below.refl _ _)
      · intro a w' hb hdep K hK
        have c15 := hb.at 7 15 _ rfl
        obtain ⟨v18, e18, j18⟩ := hdep 18 (by kernel_rfl)
        replace e18 : a.tmps[67]? = some v18 := e18
        obtain rfl : v18 = _ := j18
        clear hdep
        go_simp
        exact hK _ _ rfl (Below.refl _ _)
      · intro a w' hb hdep K hK
        have c18 := hb.at 10 18 _ rfl
        obtain ⟨v18, e18, j18⟩ := hdep 18 (by kernel_rfl)
        replace e18 : a.tmps[67]? = some v18 := e18
        obtain rfl : v18 = _ := j18
        clear hdep
        go_simp
        exact hK _ _ rfl (Below.refl _ _)
      · intro a w' hb hdep K hK
        obtain ⟨v19, e19, j19⟩ := hdep 19 (by kernel_rfl)
        replace e19 : a.tmps[68]? = some v19 := e19
        obtain rfl : v19 = _ := j19
        obtain ⟨v20, e20, j20⟩ := hdep 20 (by kernel_rfl)
        replace e20 : a.tmps[69]? = some v20 := e20
        obtain rfl : v20 = _ := j20
        obtain ⟨v18, e18, j18⟩ := hdep 18 (by kernel_rfl)
        replace e18 : a.tmps[67]? = some v18 := e18
        obtain rfl : v18 = _ := j18
        clear hdep
        go_simp
        exact hK _ _ rfl (Below.refl _ _)
      · intro a w' hb hdep K hK
        obtain ⟨v18, e18, j18⟩ := hdep 18 (by kernel_rfl)
        replace e18 : a.tmps[67]? = some v18 := e18
        obtain rfl : v18 = _ := j18
        obtain ⟨v21, e21, j21⟩ := hdep 21 (by kernel_rfl)
        replace e21 : a.tmps[70]? = some v21 := e21
        obtain rfl : v21 = _ := j21
        clear hdep
        go_simp
        exact hK _ _ rfl (Below.refl _ _)
      · intro a w' hb hdep K hK
        obtain ⟨v22, e22, j22⟩ := hdep 22 (by kernel_rfl)
        replace e22 : a.tmps[71]? = some v22 := e22
        obtain rfl : v22 = _ := j22
        clear hdep
        go_simp
        exact hK _ _ rfl (Below.refl _ _)
      · intro a w' hb hdep K hK
        have c4 := hb.at 0 4 _ rfl
        obtain ⟨v23, e23, j23⟩ := hdep 23 (by kernel_rfl)
        replace e23 : a.tmps[72]? = some v23 := e23
        obtain rfl : v23 = _ := j23
        clear hdep
        refine wanted_row 23 false rfl 72 rfl (by assumption) 23 _ rfl w.heap.size (by simp [Act.eval, c4]) 23 (ll l) (0, 0) _ (heap_on hb.bel HGL.out) Try.underlying23 rfl (lstIk h) ?_
        exact hK _ _ rfl (Below.refl _ _)
      · intro a w' hb hdep K hK
        obtain ⟨v24, e24, j24⟩ := hdep 24 (by kernel_rfl)
        replace e24 : a.tmps[73]? = some v24 := e24
        obtain rfl : v24 = _ := j24
        obtain ⟨v23, e23, j23⟩ := hdep 23 (by kernel_rfl)
        replace e23 : a.tmps[72]? = some v23 := e23
        obtain rfl : v23 = _ := j23
        clear hdep
        go_simp
        go_at_call 13
        refine (HV1.out w').mono ?_
        rintro e w20 ⟨rfl, hb20⟩
        exact hK _ _ rfl hb20
      · intro a w' hb hdep K hK
        have c4 := hb.at 0 4 _ rfl
        obtain ⟨v23, e23, j23⟩ := hdep 23 (by kernel_rfl)
        replace e23 : a.tmps[72]? = some v23 := e23
        obtain rfl : v23 = _ := j23
        clear hdep
        refine wanted_row 23 false rfl 72 rfl (by assumption) 23 _ rfl w.heap.size (by simp [Act.eval, c4]) 23 (ll l) (0, 0) _ (heap_on hb.bel HGL.out) Try.underlying23 rfl (lstIk h) ?_
        exact hK _ _ rfl (Below.refl _ _)
      · intro a w' hb hdep K hK
        obtain ⟨v26, e26, j26⟩ := hdep 26 (by kernel_rfl)
        replace e26 : a.tmps[75]? = some v26 := e26
        obtain rfl : v26 = _ := j26
        obtain ⟨v23, e23, j23⟩ := hdep 23 (by kernel_rfl)
        replace e23 : a.tmps[72]? = some v23 := e23
        obtain rfl : v23 = _ := j23
        clear hdep
        go_simp
        go_at_call 14
        refine (HV2.out w').mono ?_
        rintro e w20 ⟨rfl, hb20⟩
        exact hK _ _ rfl hb20
      · intro a w' hb hdep K hK
        obtain ⟨v25, e25, j25⟩ := hdep 25 (by kernel_rfl)
        replace e25 : a.tmps[74]? = some v25 := e25
        obtain rfl : v25 = _ := j25
        obtain ⟨v27, e27, j27⟩ := hdep 27 (by kernel_rfl)
        replace e27 : a.tmps[76]? = some v27 := e27
        obtain rfl : v27 = _ := j27
        obtain ⟨v23, e23, j23⟩ := hdep 23 (by kernel_rfl)
        replace e23 : a.tmps[72]? = some v23 := e23
        obtain rfl : v23 = _ := j23
        clear hdep
        go_simp
        exact hK _ _ rfl (Below.refl _ _)
      · intro a w' hb hdep K hK
        obtain ⟨v23, e23, j23⟩ := hdep 23 (by kernel_rfl)
        replace e23 : a.tmps[72]? = some v23 := e23
        obtain rfl : v23 = _ := j23
        obtain ⟨v28, e28, j28⟩ := hdep 28 (by kernel_rfl)
        replace e28 : a.tmps[77]? = some v28 := e28
        obtain rfl : v28 = _ := j28
        clear hdep
        go_simp
        exact hK _ _ rfl (Below.refl _ _)
      · intro a w' hb hdep K hK
        obtain ⟨v29, e29, j29⟩ := hdep 29 (by kernel_rfl)
        replace e29 : a.tmps[78]? = some v29 := e29
        obtain rfl : v29 = _ := j29
        clear hdep
        go_simp
        exact hK _ _ rfl (Below.refl _ _)
      · intro a w' hb hdep K hK
        obtain ⟨v30, e30, j30⟩ := hdep 30 (by kernel_rfl)
        replace e30 : a.tmps[79]? = some v30 := e30
        obtain rfl : v30 = _ := j30
        clear hdep
        go_simp
        go_at_call 15
        refine (HN1.out w').mono ?_
        rintro e w20 ⟨rfl, hb20⟩
        exact hK _ _ rfl hb20
      · intro a w' hb hdep K hK
        obtain ⟨v30, e30, j30⟩ := hdep 30 (by kernel_rfl)
        replace e30 : a.tmps[79]? = some v30 := e30
        obtain rfl : v30 = _ := j30
        clear hdep
        go_simp
        go_at_call 16
        refine (HN2.out w').mono ?_
        rintro e w20 ⟨rfl, hb20⟩
        exact hK _ _ rfl hb20
      · intro a w' hb hdep K hK
        obtain ⟨v31, e31, j31⟩ := hdep 31 (by kernel_rfl)
        replace e31 : a.tmps[80]? = some v31 := e31
        obtain rfl : v31 = _ := j31
        obtain ⟨v32, e32, j32⟩ := hdep 32 (by kernel_rfl)
        replace e32 : a.tmps[81]? = some v32 := e32
        obtain rfl : v32 = _ := j32
        obtain ⟨v30, e30, j30⟩ := hdep 30 (by kernel_rfl)
        replace e30 : a.tmps[79]? = some v30 := e30
        obtain rfl : v30 = _ := j30
        have heq := HEI.out
        clear hdep
        go_simp
        exact hK _ _ rfl (Below.refl _ _)
      · intro a w' hb hdep K hK
        obtain ⟨v30, e30, j30⟩ := hdep 30 (by kernel_rfl)
        replace e30 : a.tmps[79]? = some v30 := e30
        obtain rfl : v30 = _ := j30
        obtain ⟨v33, e33, j33⟩ := hdep 33 (by kernel_rfl)
        replace e33 : a.tmps[82]? = some v33 := e33
        obtain rfl : v33 = _ := j33
        clear hdep
        go_simp
        exact hK _ _ rfl (Below.refl _ _)
    · intro vs w' hvl hall hb
      have hl0 : vs.length = 35 := hvl
      clear hvl
      obtain ⟨v0, ws0, he0, hl1⟩ := len_cons hl0
      clear hl0
      obtain ⟨v1, ws1, he1, hl2⟩ := len_cons hl1
      clear hl1
      obtain ⟨v2, ws2, he2, hl3⟩ := len_cons hl2
      clear hl2
      obtain ⟨v3, ws3, he3, hl4⟩ := len_cons hl3
      clear hl3
      obtain ⟨v4, ws4, he4, hl5⟩ := len_cons hl4
      clear hl4
      obtain ⟨v5, ws5, he5, hl6⟩ := len_cons hl5
      clear hl5
      obtain ⟨v6, ws6, he6, hl7⟩ := len_cons hl6
      clear hl6
      obtain ⟨v7, ws7, he7, hl8⟩ := len_cons hl7
      clear hl7
      obtain ⟨v8, ws8, he8, hl9⟩ := len_cons hl8
      clear hl8
      obtain ⟨v9, ws9, he9, hl10⟩ := len_cons hl9
      clear hl9
      obtain ⟨v10, ws10, he10, hl11⟩ := len_cons hl10
      clear hl10
      obtain ⟨v11, ws11, he11, hl12⟩ := len_cons hl11
      clear hl11
      obtain ⟨v12, ws12, he12, hl13⟩ := len_cons hl12
      clear hl12
      obtain ⟨v13, ws13, he13, hl14⟩ := len_cons hl13
      clear hl13
      obtain ⟨v14, ws14, he14, hl15⟩ := len_cons hl14
      clear hl14
      obtain ⟨v15, ws15, he15, hl16⟩ := len_cons hl15
      clear hl15
      obtain ⟨v16, ws16, he16, hl17⟩ := len_cons hl16
      clear hl16
      obtain ⟨v17, ws17, he17, hl18⟩ := len_cons hl17
      clear hl17
      obtain ⟨v18, ws18, he18, hl19⟩ := len_cons hl18
      clear hl18
      obtain ⟨v19, ws19, he19, hl20⟩ := len_cons hl19
      clear hl19
      obtain ⟨v20, ws20, he20, hl21⟩ := len_cons hl20
      clear hl20
      obtain ⟨v21, ws21, he21, hl22⟩ := len_cons hl21
      clear hl21
      obtain ⟨v22, ws22, he22, hl23⟩ := len_cons hl22
      clear hl22
      obtain ⟨v23, ws23, he23, hl24⟩ := len_cons hl23
      clear hl23
      obtain ⟨v24, ws24, he24, hl25⟩ := len_cons hl24
      clear hl24
      obtain ⟨v25, ws25, he25, hl26⟩ := len_cons hl25
      clear hl25
      obtain ⟨v26, ws26, he26, hl27⟩ := len_cons hl26
      clear hl26
      obtain ⟨v27, ws27, he27, hl28⟩ := len_cons hl27
      clear hl27
      obtain ⟨v28, ws28, he28, hl29⟩ := len_cons hl28
      clear hl28
      obtain ⟨v29, ws29, he29, hl30⟩ := len_cons hl29
      clear hl29
      obtain ⟨v30, ws30, he30, hl31⟩ := len_cons hl30
      clear hl30
      obtain ⟨v31, ws31, he31, hl32⟩ := len_cons hl31
      clear hl31
      obtain ⟨v32, ws32, he32, hl33⟩ := len_cons hl32
      clear hl32
      obtain ⟨v33, ws33, he33, hl34⟩ := len_cons hl33
      clear hl33
      obtain ⟨v34, ws34, he34, hl35⟩ := len_cons hl34
      clear hl34
      have he35 := len_nil hl35
      subst he0 he1 he2 he3 he4 he5 he6 he7 he8 he9 he10 he11 he12 he13 he14 he15 he16 he17 he18 he19 he20 he21 he22 he23 he24 he25 he26 he27 he28 he29 he30 he31 he32 he33 he34 he35
      obtain rfl : v0 = _ := hall 0 (by decide)
      obtain rfl : v1 = _ := hall 1 (by decide)
      obtain rfl : v2 = _ := hall 2 (by decide)
      obtain rfl : v3 = _ := hall 3 (by decide)
      obtain rfl : v4 = _ := hall 4 (by decide)
      obtain rfl : v5 = _ := hall 5 (by decide)
      obtain rfl : v6 = _ := hall 6 (by decide)
      obtain rfl : v7 = _ := hall 7 (by decide)
      obtain rfl : v8 = _ := hall 8 (by decide)
      obtain rfl : v9 = _ := hall 9 (by decide)
      obtain rfl : v10 = _ := hall 10 (by decide)
      obtain rfl : v11 = _ := hall 11 (by decide)
      obtain rfl : v12 = _ := hall 12 (by decide)
      obtain rfl : v13 = _ := hall 13 (by decide)
      obtain rfl : v14 = _ := hall 14 (by decide)
      obtain rfl : v15 = _ := hall 15 (by decide)
      obtain rfl : v16 = _ := hall 16 (by decide)
      obtain rfl : v17 = _ := hall 17 (by decide)
      obtain rfl : v18 = _ := hall 18 (by decide)
      obtain rfl : v19 = _ := hall 19 (by decide)
      obtain rfl : v20 = _ := hall 20 (by decide)
      obtain rfl : v21 = _ := hall 21 (by decide)
      obtain rfl : v22 = _ := hall 22 (by decide)
      obtain rfl : v23 = _ := hall 23 (by decide)
      obtain rfl : v24 = _ := hall 24 (by decide)
      obtain rfl : v25 = _ := hall 25 (by decide)
      obtain rfl : v26 = _ := hall 26 (by decide)
      obtain rfl : v27 = _ := hall 27 (by decide)
      obtain rfl : v28 = _ := hall 28 (by decide)
      obtain rfl : v29 = _ := hall 29 (by decide)
      obtain rfl : v30 = _ := hall 30 (by decide)
      obtain rfl : v31 = _ := hall 31 (by decide)
      obtain rfl : v32 = _ := hall 32 (by decide)
      obtain rfl : v33 = _ := hall 33 (by decide)
      obtain rfl : v34 = _ := hall 34 (by decide)
      simp only [putAll, List.setIfInBounds_toArray, List.set_cons_zero, List.set_cons_succ]
      go_wp2
      go_meet
      exact ⟨rfl, hb⟩
  case rest =>
    obtain ⟨rfl, hb4⟩ := hcut
    have HSR := Lib.hid (HS.out.below (HB.out.trans (hb4.mono HB.out.size)))
    have HBR := Lib.hid (HB.out.trans (hb4.mono HB.out.size))
    clear hb4 Hg1 Hg2 Hg3 Hg4 HGL HB HEX HEY HEI HV1 HV2 HN1 HN2
    go_upto_region 9 with fail
    refine wp_region_inv (J := Js [eqv (.slice sp n cap), IsU n P, eqv (.string (bstr P)), eqv (.slice sp n cap), IsU n P, eqv (.string (bstr P)), eqv (.bool true), eqv (.bool true), eqv (.slice sp n cap), IsU n R, eqv (.string (bstr R)), eqv (.slice sp n cap), IsU n R, eqv (.string (bstr R)), eqv (.bool true), eqv (.bool true), eqv (.bool true), eqv (.bool true), eqv (.bool true), eqv (.bool true)]) (ds := [84, 85, 86, 87, 88, 89, 90, 91, 92, 93, 94, 95, 96, 97, 98, 99, 100, 101, 102, 8]) (N := 103)
      (B := [(3, .slice sp n cap)]) (by kernel_rfl) (by kernel_rfl) (Js_mono ⟨eqv_mono _, IsU_mono _ _, eqv_mono _, eqv_mono _, IsU_mono _ _, eqv_mono _, eqv_mono _, eqv_mono _, eqv_mono _, IsU_mono _ _, eqv_mono _, eqv_mono _, IsU_mono _ _, eqv_mono _, eqv_mono _, eqv_mono _, eqv_mono _, eqv_mono _, eqv_mono _, eqv_mono _, trivial⟩) rfl rfl (by simp) ?_ ?_
    · refine ⟨?_, ?_, ?_, ?_, ?_, ?_, ?_, ?_, ?_, ?_, ?_, ?_, ?_, ?_, ?_, ?_, ?_, ?_, ?_, ?_, trivial⟩
      · intro a w' hb hdep K hK
        have c3 := hb.at 0 3 _ rfl
        clear hdep
        go_simp
        exact hK _ _ rfl (Below.refl _ _)
      · intro a w' hb hdep K hK
        obtain ⟨v0, e0, j0⟩ := hdep 0 (by kernel_rfl)
        replace e0 : a.tmps[84]? = some v0 := e0
        obtain rfl : v0 = _ := j0
        clear hdep
        go_simp
        go_at_call 17
        refine (HF1.out w' (HSR.out.below hb.bel)).mono ?_
        rintro e w20 ⟨v20, rfl, hv20, hb20⟩
        exact hK _ _ hv20 hb20
      · intro a w' hb hdep K hK
        obtain ⟨v1, e1, j1⟩ := hdep 1 (by kernel_rfl)
        replace e1 : a.tmps[85]? = some v1 := e1
        clear hdep
        obtain ⟨a20, c20, rfl, hs20⟩ := j1
        have hcv := run_bstr (P := Try.prog) byteT u8U strT w' a20 n c20 P HPL.out hs20
        clear hs20
        go_simp
        exact hK _ _ rfl (Below.refl _ _)
      · intro a w' hb hdep K hK
        have c3 := hb.at 0 3 _ rfl
        clear hdep
        go_simp
        exact hK _ _ rfl (Below.refl _ _)
      · intro a w' hb hdep K hK
        obtain ⟨v3, e3, j3⟩ := hdep 3 (by kernel_rfl)
        replace e3 : a.tmps[87]? = some v3 := e3
        obtain rfl : v3 = _ := j3
        clear hdep
        go_simp
        go_at_call 18
        refine (HF2.out w' (HSR.out.below hb.bel)).mono ?_
        rintro e w20 ⟨v20, rfl, hv20, hb20⟩
        exact hK _ _ hv20 hb20
      · intro a w' hb hdep K hK
        obtain ⟨v4, e4, j4⟩ := hdep 4 (by kernel_rfl)
        replace e4 : a.tmps[88]? = some v4 := e4
        clear hdep
        obtain ⟨a20, c20, rfl, hs20⟩ := j4
        have hcv := run_bstr (P := Try.prog) byteT u8U strT w' a20 n c20 P HPL.out hs20
        clear hs20
        go_simp
        exact hK _ _ rfl (Below.refl _ _)
      · intro a w' hb hdep K hK
        obtain ⟨v2, e2, j2⟩ := hdep 2 (by kernel_rfl)
        replace e2 : a.tmps[86]? = some v2 := e2
        obtain rfl : v2 = _ := j2
        obtain ⟨v5, e5, j5⟩ := hdep 5 (by kernel_rfl)
        replace e5 : a.tmps[89]? = some v5 := e5
        obtain rfl : v5 = _ := j5
        clear hdep
        go_simp
        exact hK _ _ rfl (Below.refl _ _)
      · intro a w' hb hdep K hK
        obtain ⟨v6, e6, j6⟩ := hdep 6 (by kernel_rfl)
        replace e6 : a.tmps[90]? = some v6 := e6
        obtain rfl : v6 = _ := j6
        clear hdep
        go_simp
        exact hK _ _ rfl (Below.refl _ _)
      · intro a w' hb hdep K hK
        have c3 := hb.at 0 3 _ rfl
        obtain ⟨v7, e7, j7⟩ := hdep 7 (by kernel_rfl)
        replace e7 : a.tmps[91]? = some v7 := e7
        obtain rfl : v7 = _ := j7
        clear hdep
        go_simp
        exact hK _ _ rfl (Below.refl _ _)
      · intro a w' hb hdep K hK
        obtain ⟨v8, e8, j8⟩ := hdep 8 (by kernel_rfl)
        replace e8 : a.tmps[92]? = some v8 := e8
        obtain rfl : v8 = _ := j8
        obtain ⟨v7, e7, j7⟩ := hdep 7 (by kernel_rfl)
        replace e7 : a.tmps[91]? = some v7 := e7
        obtain rfl : v7 = _ := j7
        clear hdep
        go_simp
        go_at_call 19
        refine (HB1.out w' (HSR.out.below hb.bel)).mono ?_
        rintro e w20 ⟨v20, rfl, hv20, hb20⟩
        exact hK _ _ hv20 hb20
      · intro a w' hb hdep K hK
        obtain ⟨v9, e9, j9⟩ := hdep 9 (by kernel_rfl)
        replace e9 : a.tmps[93]? = some v9 := e9
        obtain ⟨v7, e7, j7⟩ := hdep 7 (by kernel_rfl)
        replace e7 : a.tmps[91]? = some v7 := e7
        obtain rfl : v7 = _ := j7
        clear hdep
        obtain ⟨a20, c20, rfl, hs20⟩ := j9
        have hcv := run_bstr (P := Try.prog) byteT u8U strT w' a20 n c20 R HRL.out hs20
        clear hs20
        go_simp
        exact hK _ _ rfl (Below.refl _ _)
      · intro a w' hb hdep K hK
        have c3 := hb.at 0 3 _ rfl
        obtain ⟨v7, e7, j7⟩ := hdep 7 (by kernel_rfl)
        replace e7 : a.tmps[91]? = some v7 := e7
        obtain rfl : v7 = _ := j7
        clear hdep
        go_simp
        exact hK _ _ rfl (Below.refl _ _)
      · intro a w' hb hdep K hK
        obtain ⟨v11, e11, j11⟩ := hdep 11 (by kernel_rfl)
        replace e11 : a.tmps[95]? = some v11 := e11
        obtain rfl : v11 = _ := j11
        obtain ⟨v7, e7, j7⟩ := hdep 7 (by kernel_rfl)
        replace e7 : a.tmps[91]? = some v7 := e7
        obtain rfl : v7 = _ := j7
        clear hdep
        go_simp
        go_at_call 20
        refine (HB2.out w' (HSR.out.below hb.bel)).mono ?_
        rintro e w20 ⟨v20, rfl, hv20, hb20⟩
        exact hK _ _ hv20 hb20
      · intro a w' hb hdep K hK
        obtain ⟨v12, e12, j12⟩ := hdep 12 (by kernel_rfl)
        replace e12 : a.tmps[96]? = some v12 := e12
        obtain ⟨v7, e7, j7⟩ := hdep 7 (by kernel_rfl)
        replace e7 : a.tmps[91]? = some v7 := e7
        obtain rfl : v7 = _ := j7
        clear hdep
        obtain ⟨a20, c20, rfl, hs20⟩ := j12
        have hcv := run_bstr (P := Try.prog) byteT u8U strT w' a20 n c20 R HRL.out hs20
        clear hs20
        go_simp
        exact hK _ _ rfl (Below.refl _ _)
      · intro a w' hb hdep K hK
        obtain ⟨v10, e10, j10⟩ := hdep 10 (by kernel_rfl)
        replace e10 : a.tmps[94]? = some v10 := e10
        obtain rfl : v10 = _ := j10
        obtain ⟨v13, e13, j13⟩ := hdep 13 (by kernel_rfl)
        replace e13 : a.tmps[97]? = some v13 := e13
        obtain rfl : v13 = _ := j13
        obtain ⟨v7, e7, j7⟩ := hdep 7 (by kernel_rfl)
        replace e7 : a.tmps[91]? = some v7 := e7
        obtain rfl : v7 = _ := j7
        clear hdep
        go_simp
        exact hK _ _ rfl (Below.refl _ _)
      · intro a w' hb hdep K hK
        obtain ⟨v7, e7, j7⟩ := hdep 7 (by kernel_rfl)
        replace e7 : a.tmps[91]? = some v7 := e7
        obtain rfl : v7 = _ := j7
        obtain ⟨v14, e14, j14⟩ := hdep 14 (by kernel_rfl)
        replace e14 : a.tmps[98]? = some v14 := e14
        obtain rfl : v14 = _ := j14
        clear hdep
        go_simp
        exact hK _ _ rfl (Below.refl _ _)
      · intro a w' hb hdep K hK
        obtain ⟨v15, e15, j15⟩ := hdep 15 (by kernel_rfl)
        replace e15 : a.tmps[99]? = some v15 := e15
        obtain rfl : v15 = _ := j15
        clear hdep
        go_simp
        exact hK _ _ rfl (Below.refl _ _)
      · intro a w' hb hdep K hK
        obtain ⟨v16, e16, j16⟩ := hdep 16 (by kernel_rfl)
        replace e16 : a.tmps[100]? = some v16 := e16
        obtain rfl : v16 = _ := j16
        clear hdep
        go_simp
        go_at_call 8
        refine (HWK.out w').mono ?_
        rintro e w20 ⟨rfl, hb20⟩
        exact hK _ _ rfl hb20
      · intro a w' hb hdep K hK
        obtain ⟨v16, e16, j16⟩ := hdep 16 (by kernel_rfl)
        replace e16 : a.tmps[100]? = some v16 := e16
        obtain rfl : v16 = _ := j16
        obtain ⟨v17, e17, j17⟩ := hdep 17 (by kernel_rfl)
        replace e17 : a.tmps[101]? = some v17 := e17
        obtain rfl : v17 = _ := j17
        clear hdep
        go_simp
        exact hK _ _ rfl (Below.refl _ _)
      · intro a w' hb hdep K hK
        obtain ⟨v18, e18, j18⟩ := hdep 18 (by kernel_rfl)
        replace e18 : a.tmps[102]? = some v18 := e18
        obtain rfl : v18 = _ := j18
        clear hdep
        go_simp
        exact hK _ _ rfl (Below.refl _ _)
    · intro a w' hb hall
      obtain ⟨v, h6, hv⟩ := hall 19 (by decide)
      obtain rfl : v = .bool true := hv
      have HBB := Lib.hid (HBR.out.trans (hb.bel.mono HBR.out.size))
      have hd := hb.defers
      clear hall hb
      go_wp2
      replace h6 : a.tmps[8]? = some (.bool true) := h6
      exact bodyPost_ret (v := .bool true) (by simp [results, Try.results3, go_sem, h6]) hd ⟨rfl, HBB.out⟩
end Go.Proofs.Ytaemmeofchonaaa
