/- Law LengthTableMatches. -/
import Derived.Test.YtckopdifjhjppaaLwN
import Derived.Test.YtckopdifjhjppaaLdQ
import Derived.Test.YtckopdifjhjppaaLdP
set_option linter.unusedVariables false
set_option linter.unusedSimpArgs false
namespace Go.Proofs.Ytckopdifjhjppaa
open Go.RowKit

theorem step_tst {c : TS} (hT : Tst c) (b : Int) : Tst (stepS tableV c b).1 := by
  unfold stepS
  split
  · exact z0_tst
  · rename_i h
    split
    · exact z0_tst
    · rename_i hw
      obtain ⟨hv, hy⟩ := not_or.1 h
      obtain ⟨hy, hb⟩ := not_or.1 hy
      obtain ⟨f, k, hr, hc⟩ := valid_iff.1 (by simpa using hv)
      have hy0 := hr.y0
      exact (hr.step hc (by omega) (Classical.not_not.1 hb) (by simpa using hw)).1.tst
/-- Put, whatever the lengths are. -/
theorem lput_any (l : List Int) (h : Lng l) {w : World} {p : Nat} {A : Option Nat} {c : Nat} (hw : Wr w p A c []) :
    Calls Try.prog 16 #[.pointer (some ⟨p, 0, none⟩), .agg (lg l)] w fun e w' => e = .returned (.int .i64 (ofE l)) ∧ ∃ A' c', Wr w' p A' c' (ofR l) ∧ Ch (Fp p A) w w' := by
  cases ht : tableV l with
  | true =>
    have hR0 : ofR l = ofV l := by unfold ofR; rw [ht]; rfl
    have hE0 : ofE l = 0 := by unfold ofE; rw [ht]; rfl
    rw [hR0, hE0]
    exact (lput_yes l h ht hw).mono fun e w' ⟨h1, A', c', h2, h3, _⟩ => ⟨h1, A', c', h2, h3⟩
  | false =>
    have hR0 : ofR l = [] := by unfold ofR; rw [ht]; rfl
    have hE0 : ofE l = 2 := by unfold ofE; rw [ht]; rfl
    rw [hR0, hE0]
    exact (lput_no l h ht p w).mono fun e w' ⟨h1, h2⟩ => ⟨h1, A, c, hw.below h2, Ch.of_below h2⟩
theorem ofR_bin (l : List Int) : Bin (ofR l) := by
  unfold ofR
  split
  · exact fun b hb => encV_bit (gl l 0) l 258 b hb
  · exact Bin.nil
theorem ofR_len {l : List Int} (h : Lng l) : (ofR l).length ≤ 8002 := by
  unfold ofR
  split
  · rename_i ht
    exact of_most h ht
  · simp
/-- A slice of these bytes. -/
def IsU (n : Nat) (q : List Int) (v : Value) (w : World) : Prop := ∃ a c, v = .slice a n c ∧ Src w .u8 a q
theorem IsU_mono (n : Nat) (q : List Int) : MonoV (IsU n q) := fun v w w' h hb => by
  obtain ⟨a, c, e, hs⟩ := h
  exact ⟨a, c, e, hs.below hb⟩
theorem wbytes_at {w : World} {p : Nat} {A : Option Nat} {c n : Nat} {bs P : List Int} (h : Wr w p A c bs) (hn : (bs.length + 7) / 8 = n) (hp : packB bs = P) :
    Calls Try.prog 20 #[.pointer (some ⟨p, 0, none⟩)] w fun e w' => ∃ v, e = .returned v ∧ IsU n P v w' ∧ Below w.heap.size w w' := by
  subst hn
  subst hp
  exact (wbytes_call h).mono fun e w' ⟨g, h1, _, h3, h4⟩ => ⟨_, h1, ⟨_, _, rfl, Src.whole h3⟩, h4⟩
theorem rbytes_at (w : World) (sp : Option Addr) (X c n : Nat) (bs P : List Int) (hl : bs.length = X) (hS : Src w .i64 sp bs) (hb : Bin bs) (hs : X ≤ 8002) (hn : (X + 7) / 8 = n) (hp : packB bs = P) :
    Calls Try.prog 21 #[.slice sp X c] w fun e w' => ∃ v, e = .returned v ∧ IsU n P v w' ∧ Below w.heap.size w w' := by
  subst hn
  subst hp
  exact (rbytes_call w sp X c bs hl hS hb (by omega)).mono fun e w' ⟨A, c2, h1, h2, _, h4⟩ => ⟨_, h1, ⟨_, _, rfl, h2.src⟩, h4⟩
theorem ints_same (a b : Option Addr) (n c e : Nat) (q : List Int) (w : World) (hq : q.length = n) (hs : Src w .i64 a q) (ht : Src w .i64 b q) (hn : n ≤ 8002) :
    Calls Try.prog 12 #[.slice a n c, .slice b n e] w fun r w' => r = .returned (.bool true) ∧ Below w.heap.size w w' := by
  have h := ints_call a b n n c e q q w hq hq hs ht (by omega) (by omega)
  rw [decide_eq_true rfl] at h
  exact h

set_option maxRecDepth 100000 in
set_option maxHeartbeats 2000000 in
theorem matches_long (t : TS) (bit : Int) (l : List Int) (sp : Option Addr) (n cap : Nat) (hn : n ≤ 9223372036854775807) (h : 9000 < n) (w : World) :
    Calls Try.prog 3 #[.agg (tg t), .int .i64 bit, .agg (lg l), .slice sp n cap] w fun e w' => e = .returned (.bool true) ∧ Below w.heap.size w w' := by
  have hwk := wakes_call
  have d0 : decide ((9000 : Int) < (n : Int)) = true := decide_eq_true (by omega)
  go_enter Try.func3, Try.ntmps3
  go_upto_region 1 with fail
  have hb : Below w.heap.size w ((w.alloc (.cells (tg t) 25)).alloc (.cells (lg l) 23)) := ((Below.refl _ _).alloc (Nat.le_refl _) _).alloc (by simp) _
  generalize (w.alloc (.cells (tg t) 25)).alloc (.cells (lg l) 23) = w1 at hb ⊢
  have HB := Lib.hid hb
  clear hb
  go_wp2_with (with_reducible refine (hwk _).mono ?_; rintro e z ⟨rfl, hb⟩)
  go_ret
  exact ⟨rfl, HB.out.trans (hb.mono HB.out.size)⟩

set_option maxRecDepth 100000 in
set_option maxHeartbeats 16000000 in
theorem matches_short (t : TS) (hT : Tst t) (bit : Int) (l : List Int) (h : Lng l) (sp : Option Addr) (n cap : Nat) (q : List Int) (hq : q.length = n) (hn : n ≤ 9000) (w : World) (hs : Src w .i64 sp q) :
    Calls Try.prog 3 #[.agg (tg t), .int .i64 bit, .agg (lg l), .slice sp n cap] w fun e w' => e = .returned (.bool true) ∧ Below w.heap.size w w' := by
  have hst := fun W => step_call t hT bit W
  have hrt := fun W => rstep_call t hT bit W
  have hTD := step_tst hT bit
  obtain ⟨D, dn, E, hD⟩ : ∃ D dn E, stepS tableV t bit = (D, dn, E) := ⟨_, _, _, rfl⟩
  rw [hD] at hst hrt hTD
  have HST := Lib.hid hst
  have HRT := Lib.hid hrt
  clear hst hrt hD
  have hvc := fun W => valid_call t hT W
  have hrv := fun W => rvalid_call t hT W
  generalize validS tableV t = V at hvc hrv
  have HVC := Lib.hid hvc
  have HRV := Lib.hid hrv
  clear hvc hrv
  have hoc := fun W => of_call l h W
  have hro := fun W => rof_call l h W
  have HPU := Lib.hid (fun (W : World) (p : Nat) (A : Option Nat) (c : Nat) (hw : Wr W p A c []) => lput_any l h hw)
  have hxl := ofR_len h
  have HXB := Lib.hid (ofR_bin l)
  generalize ofR l = x at hoc hro HPU hxl HXB
  generalize ofE l = E2 at hoc hro HPU
  obtain ⟨X, hX⟩ : ∃ X, x.length = X := ⟨_, rfl⟩
  rw [hX] at hoc hro hxl
  have HX := Lib.hid hX
  have HOC := Lib.hid hoc
  have HRO := Lib.hid hro
  clear hoc hro hX
  have hrc := fun W hs => read_call sp n cap q hq (by omega) W hs
  have hrr := fun W hs => rread_call sp n cap q hq (by omega) W hs
  have hLr := read_lng q (Rch.zero (T := tableV) 0) cnt0 (by show (0 : Int) ≠ 258; decide)
  obtain ⟨Lr, nr, er, hrd⟩ : ∃ L m e, readS tableV z0 0 q = (L, m, e) := ⟨_, _, _, rfl⟩
  rw [hrd] at hrc hrr hLr
  have HRC := Lib.hid hrc
  have HRR := Lib.hid hrr
  have HLR := Lib.hid hLr
  have HS := Lib.hid hs
  clear hrc hrr hrd hLr hs hq
  have hDL := hTD.lng.1
  have htL := hT.lng.1
  have hds : (tg D).size = 262 := tg_size hDL
  have hlr : (lg Lr).size = 258 := lg_size HLR.out
  have hzL := lngZ
  have hzT := tstZ
  have d0 : decide ((9000 : Int) < (n : Int)) = false := decide_eq_false (by omega)
  have d0n : decide (9000 < n) = false := decide_eq_false (by omega)
  go_enter Try.func3, Try.ntmps3
  go_upto_region 1 with fail
  have hg := heap_alloc2_old w (.cells (tg t) 25) (.cells (lg l) 23)
  have hgl := heap_alloc2_new w (.cells (tg t) 25) (.cells (lg l) 23)
  have hb : Below w.heap.size w ((w.alloc (.cells (tg t) 25)).alloc (.cells (lg l) 23)) := ((Below.refl _ _).alloc (Nat.le_refl _) _).alloc (by simp) _
  generalize (w.alloc (.cells (tg t) 25)).alloc (.cells (lg l) 23) = w1 at hg hgl hb ⊢
  have HB := Lib.hid hb
  have HG := Lib.hid hg
  have HGL := Lib.hid hgl
  clear hb hgl
  go_upto_region 4 with (first
    | (refine wpList_load_row rfl 25 _ rfl w.heap.size rfl 25 (tg t) (0, 0) _ hg Try.underlying25 rfl (tstIk htL) ?_)
    | (with_reducible refine (HST.out _).mono ?_; rintro e xw ⟨rfl, hbx⟩)
    | (refine wpList_store_row rfl 25 _ _ rfl xw.heap.size (tg D) rfl rfl 25 (tg z0) (heap_alloc_last xw _) (tstIk hDL) (by rw [tg_size z0_len, hds]) (tg_all _) ?_))
  rw [World.setRow_alloc_new]
  try simp only [Act.put]
  clear d0 d0n hg
  have hby := hbx.alloc (o := .cells (tg D) 25) hbx.size
  have h9 := heap_alloc_last xw (.cells (tg D) 25)
  obtain ⟨g9, hg9⟩ : ∃ g9, g9 = xw.heap.size := ⟨_, rfl⟩
  rw [← hg9] at h9 ⊢
  have H9 := Lib.hid h9
  replace HB := Lib.hid (HB.out.trans (hby.mono HB.out.size))
  replace HG := Lib.hid (heap_on hby HG.out)
  replace HGL := Lib.hid (heap_on hby HGL.out)
  clear hg9 h9 hby hbx
  generalize xw.alloc (.cells (tg D) 25) = w3 at H9 HB HG HGL ⊢
  have hg := HG.out
  go_upto_region 5 with (first
    | (refine wpList_load_row rfl 25 _ rfl w.heap.size rfl 25 (tg t) (0, 0) _ hg Try.underlying25 rfl (tstIk htL) ?_)
    | (with_reducible refine (HRT.out _).mono ?_; rintro e xw ⟨rfl, hbx⟩)
    | (refine wpList_store_row rfl 25 _ _ rfl xw.heap.size (tg D) rfl rfl 25 (tg z0) (heap_alloc_last xw _) (tstIk hDL) (by rw [tg_size z0_len, hds]) (tg_all _) ?_))
  rw [World.setRow_alloc_new]
  try simp only [Act.put]
  clear hg HST HRT
  have hby := hbx.alloc (o := .cells (tg D) 25) hbx.size
  have h12 := heap_alloc_last xw (.cells (tg D) 25)
  obtain ⟨g12, hg12⟩ : ∃ g12, g12 = xw.heap.size := ⟨_, rfl⟩
  rw [← hg12] at h12 ⊢
  have H12 := Lib.hid h12
  replace HB := Lib.hid (HB.out.trans (hby.mono HB.out.size))
  replace HG := Lib.hid (heap_on hby HG.out)
  replace HGL := Lib.hid (heap_on hby HGL.out)
  replace H9 := Lib.hid (heap_on hby H9.out)
  clear hg12 h12 hby hbx
  generalize xw.alloc (.cells (tg D) 25) = w4 at H9 H12 HB HG HGL ⊢
  have hgl := HGL.out
  go_upto_region 6 with (first
    | (refine wpList_load_row rfl 23 _ rfl (w.heap.size + 1) rfl 23 (lg l) (0, 0) _ hgl Try.underlying23 rfl (lngIk h) ?_)
    | (with_reducible refine (HOC.out _).mono ?_; rintro e w5 ⟨A5, c5, rfl, hs5⟩))
  replace HB := Lib.hid (HB.out.trans (hs5.bel.mono HB.out.size))
  replace HG := Lib.hid (heap_on hs5.bel HG.out)
  replace HGL := Lib.hid (heap_on hs5.bel HGL.out)
  replace H9 := Lib.hid (heap_on hs5.bel H9.out)
  replace H12 := Lib.hid (heap_on hs5.bel H12.out)
  have HX5 := Lib.hid hs5.own.src
  clear hs5 hgl HOC
  have hgl := HGL.out
  go_upto_region 7 with (first
    | (refine wpList_load_row rfl 23 _ rfl (w.heap.size + 1) rfl 23 (lg l) (0, 0) _ hgl Try.underlying23 rfl (lngIk h) ?_)
    | (with_reducible refine (HRO.out _).mono ?_; rintro e w6 ⟨A6, c6, rfl, hs6⟩))
  replace HB := Lib.hid (HB.out.trans (hs6.bel.mono HB.out.size))
  replace HG := Lib.hid (heap_on hs6.bel HG.out)
  replace HGL := Lib.hid (heap_on hs6.bel HGL.out)
  replace H9 := Lib.hid (heap_on hs6.bel H9.out)
  replace H12 := Lib.hid (heap_on hs6.bel H12.out)
  replace HX5 := Lib.hid (HX5.out.below hs6.bel)
  have HX6 := Lib.hid hs6.own.src
  clear hs6 hgl HRO
  generalize ad0 A5 = a5 at HX5 ⊢
  generalize ad0 A6 = a6 at HX6 ⊢
  have heqD := fun W => run_eqi_tst W hTD hTD
  rw [decide_eq_true rfl] at heqD
  have HED := Lib.hid heqD
  have heqL := fun W => run_eqi_lng W HLR.out HLR.out
  rw [decide_eq_true rfl] at heqL
  have HEL := Lib.hid heqL
  clear heqD heqL
  refine wp_region_frame (J := Js [eqv (.agg (tg D)), eqv (.agg (tg D)), eqv (.bool false), eqv (.bool false), eqv (.bool dn), eqv (.bool dn), eqv (.bool false), eqv (.bool false), eqv (.bool false), eqv (.int .i64 E), eqv (.int .i64 E), eqv (.bool false), eqv (.bool false), eqv (.bool false), eqv (.slice a5 X c5), eqv (.slice a6 X c6), eqv (.bool true), eqv (.bool false), eqv (.bool false), eqv (.bool false), eqv (.int .i64 E2), eqv (.int .i64 E2), eqv (.bool false), eqv (.bool false), eqv (.bool false), eqv (.agg (tg t)), eqv (.bool V), eqv (.agg (tg t)), eqv (.bool V), eqv (.bool false), eqv (.bool false)]) (ds := [55, 56, 57, 58, 59, 60, 61, 62, 63, 64, 65, 66, 67, 68, 69, 70, 71, 72, 73, 74, 75, 76, 77, 78, 79, 80, 81, 82, 83, 84, 85]) (N := 139)
    (B := [(4, .pointer (some ⟨w.heap.size, 0, none⟩)), (9, .pointer (some ⟨g9, 0, none⟩)), (12, .pointer (some ⟨g12, 0, none⟩)), (10, .bool dn), (13, .bool dn), (11, .int .i64 E), (14, .int .i64 E), (15, .slice a5 X c5), (17, .slice a6 X c6), (16, .int .i64 E2), (18, .int .i64 E2)]) (by kernel_rfl) (by kernel_rfl) (Js_mono ⟨eqv_mono _, eqv_mono _, eqv_mono _, eqv_mono _, eqv_mono _, eqv_mono _, eqv_mono _, eqv_mono _, eqv_mono _, eqv_mono _, eqv_mono _, eqv_mono _, eqv_mono _, eqv_mono _, eqv_mono _, eqv_mono _, eqv_mono _, eqv_mono _, eqv_mono _, eqv_mono _, eqv_mono _, eqv_mono _, eqv_mono _, eqv_mono _, eqv_mono _, eqv_mono _, eqv_mono _, eqv_mono _, eqv_mono _, eqv_mono _, eqv_mono _, trivial⟩) rfl rfl (by simp) ?_ ?_
  · refine ⟨?_, ?_, ?_, ?_, ?_, ?_, ?_, ?_, ?_, ?_, ?_, ?_, ?_, ?_, ?_, ?_, ?_, ?_, ?_, ?_, ?_, ?_, ?_, ?_, ?_, ?_, ?_, ?_, ?_, ?_, ?_, trivial⟩
    · intro a w' hb hdep K hK
      have c9 := hb.at 1 9 _ rfl
      clear hdep
      exact wp_load_row 25 _ rfl g9 (by simp [Act.eval, c9]) 25 (tg D) (0, 0) _ (heap_on hb.bel H9.out) Try.underlying25 rfl (tstIk hDL) (hK _ _ rfl (Below.refl _ _))
    · intro a w' hb hdep K hK
      have c12 := hb.at 2 12 _ rfl
      clear hdep
      exact wp_load_row 25 _ rfl g12 (by simp [Act.eval, c12]) 25 (tg D) (0, 0) _ (heap_on hb.bel H12.out) Try.underlying25 rfl (tstIk hDL) (hK _ _ rfl (Below.refl _ _))
    · intro a w' hb hdep K hK
      obtain ⟨v0, e0, j0⟩ := hdep 0 (by kernel_rfl)
      replace e0 : a.tmps[55]? = some v0 := e0
      obtain rfl : v0 = _ := j0
      obtain ⟨v1, e1, j1⟩ := hdep 1 (by kernel_rfl)
      replace e1 : a.tmps[56]? = some v1 := e1
      obtain rfl : v1 = _ := j1
      have heq := HED.out
      clear hdep
      go_simp
      exact hK _ _ rfl (Below.refl _ _)
    · intro a w' hb hdep K hK
      obtain ⟨v2, e2, j2⟩ := hdep 2 (by kernel_rfl)
      replace e2 : a.tmps[57]? = some v2 := e2
      obtain rfl : v2 = _ := j2
      clear hdep
      go_simp
      exact hK _ _ rfl (Below.refl _ _)
    · intro a w' hb hdep K hK
      have c10 := hb.at 3 10 _ rfl
      obtain ⟨v3, e3, j3⟩ := hdep 3 (by kernel_rfl)
      replace e3 : a.tmps[58]? = some v3 := e3
      obtain rfl : v3 = _ := j3
      clear hdep
      go_simp
      exact hK _ _ rfl (Below.refl _ _)
    · intro a w' hb hdep K hK
      have c13 := hb.at 4 13 _ rfl
      obtain ⟨v3, e3, j3⟩ := hdep 3 (by kernel_rfl)
      replace e3 : a.tmps[58]? = some v3 := e3
      obtain rfl : v3 = _ := j3
      clear hdep
      go_simp
      exact hK _ _ rfl (Below.refl _ _)
    · intro a w' hb hdep K hK
      obtain ⟨v4, e4, j4⟩ := hdep 4 (by kernel_rfl)
      replace e4 : a.tmps[59]? = some v4 := e4
      obtain rfl : v4 = _ := j4
      obtain ⟨v5, e5, j5⟩ := hdep 5 (by kernel_rfl)
      replace e5 : a.tmps[60]? = some v5 := e5
      obtain rfl : v5 = _ := j5
      obtain ⟨v3, e3, j3⟩ := hdep 3 (by kernel_rfl)
      replace e3 : a.tmps[58]? = some v3 := e3
      obtain rfl : v3 = _ := j3
      have hbn : (dn != dn) = false := by cases dn <;> rfl
      clear hdep
      go_simp
      exact hK _ _ rfl (Below.refl _ _)
    · intro a w' hb hdep K hK
      obtain ⟨v3, e3, j3⟩ := hdep 3 (by kernel_rfl)
      replace e3 : a.tmps[58]? = some v3 := e3
      obtain rfl : v3 = _ := j3
      obtain ⟨v6, e6, j6⟩ := hdep 6 (by kernel_rfl)
      replace e6 : a.tmps[61]? = some v6 := e6
      obtain rfl : v6 = _ := j6
      clear hdep
      go_simp
      exact hK _ _ rfl (Below.refl _ _)
    · intro a w' hb hdep K hK
      obtain ⟨v7, e7, j7⟩ := hdep 7 (by kernel_rfl)
      replace e7 : a.tmps[62]? = some v7 := e7
      obtain rfl : v7 = _ := j7
      clear hdep
      go_simp
      exact hK _ _ rfl (Below.refl _ _)
    · intro a w' hb hdep K hK
      have c11 := hb.at 5 11 _ rfl
      obtain ⟨v8, e8, j8⟩ := hdep 8 (by kernel_rfl)
      replace e8 : a.tmps[63]? = some v8 := e8
      obtain rfl : v8 = _ := j8
      clear hdep
      go_simp
      exact hK _ _ rfl (Below.refl _ _)
    · intro a w' hb hdep K hK
      have c14 := hb.at 6 14 _ rfl
      obtain ⟨v8, e8, j8⟩ := hdep 8 (by kernel_rfl)
      replace e8 : a.tmps[63]? = some v8 := e8
      obtain rfl : v8 = _ := j8
      clear hdep
      go_simp
      exact hK _ _ rfl (Below.refl _ _)
    · intro a w' hb hdep K hK
      obtain ⟨v9, e9, j9⟩ := hdep 9 (by kernel_rfl)
      replace e9 : a.tmps[64]? = some v9 := e9
      obtain rfl : v9 = _ := j9
      obtain ⟨v10, e10, j10⟩ := hdep 10 (by kernel_rfl)
      replace e10 : a.tmps[65]? = some v10 := e10
      obtain rfl : v10 = _ := j10
      obtain ⟨v8, e8, j8⟩ := hdep 8 (by kernel_rfl)
      replace e8 : a.tmps[63]? = some v8 := e8
      obtain rfl : v8 = _ := j8
      have hbn : (E != E) = false := by simp
      clear hdep
      go_simp
      exact hK _ _ rfl (Below.refl _ _)
    · intro a w' hb hdep K hK
      obtain ⟨v8, e8, j8⟩ := hdep 8 (by kernel_rfl)
      replace e8 : a.tmps[63]? = some v8 := e8
      obtain rfl : v8 = _ := j8
      obtain ⟨v11, e11, j11⟩ := hdep 11 (by kernel_rfl)
      replace e11 : a.tmps[66]? = some v11 := e11
      obtain rfl : v11 = _ := j11
      clear hdep
      go_simp
      exact hK _ _ rfl (Below.refl _ _)
    · intro a w' hb hdep K hK
      obtain ⟨v12, e12, j12⟩ := hdep 12 (by kernel_rfl)
      replace e12 : a.tmps[67]? = some v12 := e12
      obtain rfl : v12 = _ := j12
      clear hdep
      go_simp
      exact hK _ _ rfl (Below.refl _ _)
    · intro a w' hb hdep K hK
      have c15 := hb.at 7 15 _ rfl
      obtain ⟨v13, e13, j13⟩ := hdep 13 (by kernel_rfl)
      replace e13 : a.tmps[68]? = some v13 := e13
      obtain rfl : v13 = _ := j13
      clear hdep
      go_simp
      exact hK _ _ rfl (Below.refl _ _)
    · intro a w' hb hdep K hK
      have c17 := hb.at 8 17 _ rfl
      obtain ⟨v13, e13, j13⟩ := hdep 13 (by kernel_rfl)
      replace e13 : a.tmps[68]? = some v13 := e13
      obtain rfl : v13 = _ := j13
      clear hdep
      go_simp
      exact hK _ _ rfl (Below.refl _ _)
    · intro a w' hb hdep K hK
      obtain ⟨v14, e14, j14⟩ := hdep 14 (by kernel_rfl)
      replace e14 : a.tmps[69]? = some v14 := e14
      obtain rfl : v14 = _ := j14
      obtain ⟨v15, e15, j15⟩ := hdep 15 (by kernel_rfl)
      replace e15 : a.tmps[70]? = some v15 := e15
      obtain rfl : v15 = _ := j15
      obtain ⟨v13, e13, j13⟩ := hdep 13 (by kernel_rfl)
      replace e13 : a.tmps[68]? = some v13 := e13
      obtain rfl : v13 = _ := j13
      clear hdep
      go_simp
      go_at_call 12
      refine (ints_same a5 a6 X c5 c6 x w' HX.out (HX5.out.below hb.bel) (HX6.out.below hb.bel) hxl).mono ?_
      rintro e w20 ⟨rfl, hb20⟩
      exact hK _ _ rfl hb20
    · intro a w' hb hdep K hK
      obtain ⟨v16, e16, j16⟩ := hdep 16 (by kernel_rfl)
      replace e16 : a.tmps[71]? = some v16 := e16
      obtain rfl : v16 = _ := j16
      obtain ⟨v13, e13, j13⟩ := hdep 13 (by kernel_rfl)
      replace e13 : a.tmps[68]? = some v13 := e13
      obtain rfl : v13 = _ := j13
      clear hdep
      go_simp
      exact hK _ _ rfl (Below.refl _ _)
    · intro a w' hb hdep K hK
      obtain ⟨v13, e13, j13⟩ := hdep 13 (by kernel_rfl)
      replace e13 : a.tmps[68]? = some v13 := e13
      obtain rfl : v13 = _ := j13
      obtain ⟨v17, e17, j17⟩ := hdep 17 (by kernel_rfl)
      replace e17 : a.tmps[72]? = some v17 := e17
      obtain rfl : v17 = _ := j17
      clear hdep
      go_simp
      exact hK _ _ rfl (Below.refl _ _)
    · intro a w' hb hdep K hK
      obtain ⟨v18, e18, j18⟩ := hdep 18 (by kernel_rfl)
      replace e18 : a.tmps[73]? = some v18 := e18
      obtain rfl : v18 = _ := j18
      clear hdep
      go_simp
      exact hK _ _ rfl (Below.refl _ _)
    · intro a w' hb hdep K hK
      have c16 := hb.at 9 16 _ rfl
      obtain ⟨v19, e19, j19⟩ := hdep 19 (by kernel_rfl)
      replace e19 : a.tmps[74]? = some v19 := e19
      obtain rfl : v19 = _ := j19
      clear hdep
      go_simp
      exact hK _ _ rfl (Below.refl _ _)
    · intro a w' hb hdep K hK
      have c18 := hb.at 10 18 _ rfl
      obtain ⟨v19, e19, j19⟩ := hdep 19 (by kernel_rfl)
      replace e19 : a.tmps[74]? = some v19 := e19
      obtain rfl : v19 = _ := j19
      clear hdep
      go_simp
      exact hK _ _ rfl (Below.refl _ _)
    · intro a w' hb hdep K hK
      obtain ⟨v20, e20, j20⟩ := hdep 20 (by kernel_rfl)
      replace e20 : a.tmps[75]? = some v20 := e20
      obtain rfl : v20 = _ := j20
      obtain ⟨v21, e21, j21⟩ := hdep 21 (by kernel_rfl)
      replace e21 : a.tmps[76]? = some v21 := e21
      obtain rfl : v21 = _ := j21
      obtain ⟨v19, e19, j19⟩ := hdep 19 (by kernel_rfl)
      replace e19 : a.tmps[74]? = some v19 := e19
      obtain rfl : v19 = _ := j19
      have hbn : (E2 != E2) = false := by simp
      clear hdep
      go_simp
      exact hK _ _ rfl (Below.refl _ _)
    · intro a w' hb hdep K hK
      obtain ⟨v19, e19, j19⟩ := hdep 19 (by kernel_rfl)
      replace e19 : a.tmps[74]? = some v19 := e19
      obtain rfl : v19 = _ := j19
      obtain ⟨v22, e22, j22⟩ := hdep 22 (by kernel_rfl)
      replace e22 : a.tmps[77]? = some v22 := e22
      obtain rfl : v22 = _ := j22
      clear hdep
      go_simp
      exact hK _ _ rfl (Below.refl _ _)
    · intro a w' hb hdep K hK
      obtain ⟨v23, e23, j23⟩ := hdep 23 (by kernel_rfl)
      replace e23 : a.tmps[78]? = some v23 := e23
      obtain rfl : v23 = _ := j23
      clear hdep
      go_simp
      exact hK _ _ rfl (Below.refl _ _)
    · intro a w' hb hdep K hK
      have c4 := hb.at 0 4 _ rfl
      obtain ⟨v24, e24, j24⟩ := hdep 24 (by kernel_rfl)
      replace e24 : a.tmps[79]? = some v24 := e24
      obtain rfl : v24 = _ := j24
      clear hdep
      refine wanted_row 24 false rfl 79 rfl (by assumption) 25 _ rfl w.heap.size (by simp [Act.eval, c4]) 25 (tg t) (0, 0) _ (heap_on hb.bel HG.out) Try.underlying25 rfl (tstIk htL) ?_
      exact hK _ _ rfl (Below.refl _ _)
    · intro a w' hb hdep K hK
      obtain ⟨v25, e25, j25⟩ := hdep 25 (by kernel_rfl)
      replace e25 : a.tmps[80]? = some v25 := e25
      obtain rfl : v25 = _ := j25
      obtain ⟨v24, e24, j24⟩ := hdep 24 (by kernel_rfl)
      replace e24 : a.tmps[79]? = some v24 := e24
      obtain rfl : v24 = _ := j24
      clear hdep
      go_simp
      go_at_call 13
      refine (HVC.out w').mono ?_
      rintro e w20 ⟨rfl, hb20⟩
      exact hK _ _ rfl hb20
    · intro a w' hb hdep K hK
      have c4 := hb.at 0 4 _ rfl
      obtain ⟨v24, e24, j24⟩ := hdep 24 (by kernel_rfl)
      replace e24 : a.tmps[79]? = some v24 := e24
      obtain rfl : v24 = _ := j24
      clear hdep
      refine wanted_row 24 false rfl 79 rfl (by assumption) 25 _ rfl w.heap.size (by simp [Act.eval, c4]) 25 (tg t) (0, 0) _ (heap_on hb.bel HG.out) Try.underlying25 rfl (tstIk htL) ?_
      exact hK _ _ rfl (Below.refl _ _)
    · intro a w' hb hdep K hK
      obtain ⟨v27, e27, j27⟩ := hdep 27 (by kernel_rfl)
      replace e27 : a.tmps[82]? = some v27 := e27
      obtain rfl : v27 = _ := j27
      obtain ⟨v24, e24, j24⟩ := hdep 24 (by kernel_rfl)
      replace e24 : a.tmps[79]? = some v24 := e24
      obtain rfl : v24 = _ := j24
      clear hdep
      go_simp
      go_at_call 14
      refine (HRV.out w').mono ?_
      rintro e w20 ⟨rfl, hb20⟩
      exact hK _ _ rfl hb20
    · intro a w' hb hdep K hK
      obtain ⟨v26, e26, j26⟩ := hdep 26 (by kernel_rfl)
      replace e26 : a.tmps[81]? = some v26 := e26
      obtain rfl : v26 = _ := j26
      obtain ⟨v28, e28, j28⟩ := hdep 28 (by kernel_rfl)
      replace e28 : a.tmps[83]? = some v28 := e28
      obtain rfl : v28 = _ := j28
      obtain ⟨v24, e24, j24⟩ := hdep 24 (by kernel_rfl)
      replace e24 : a.tmps[79]? = some v24 := e24
      obtain rfl : v24 = _ := j24
      have hbn : (V != V) = false := by cases V <;> rfl
      clear hdep
      go_simp
      exact hK _ _ rfl (Below.refl _ _)
    · intro a w' hb hdep K hK
      obtain ⟨v24, e24, j24⟩ := hdep 24 (by kernel_rfl)
      replace e24 : a.tmps[79]? = some v24 := e24
      obtain rfl : v24 = _ := j24
      obtain ⟨v29, e29, j29⟩ := hdep 29 (by kernel_rfl)
      replace e29 : a.tmps[84]? = some v29 := e29
      obtain rfl : v29 = _ := j29
      clear hdep
      go_simp
      exact hK _ _ rfl (Below.refl _ _)
  · intro vs w' hvl hall hb
    match vs, hvl with
    | [v0, v1, v2, v3, v4, v5, v6, v7, v8, v9, v10, v11, v12, v13, v14, v15, v16, v17, v18, v19, v20, v21, v22, v23, v24, v25, v26, v27, v28, v29, v30], _ =>
      obtain rfl : v0 = _ := hall 0 (by decide)
      obtain rfl : v1 = _ := hall 1 (by decide)
      obtain rfl : v2 = _ := hall 2 (by decide)
      obtain rfl : v3 = _ := hall 3 (by decide)
      obtain rfl : v4 = _ := hall 4 (by decide)
      obtain rfl : v5 = _ := hall 5 (by decide)
      obtain rfl : v6 = _ := hall 6 (by decide)
      obtain rfl : v7 = _ := hall 7 (by decide)
      obtain rfl : v8 = _ := hall 8 (by decide)
      obtain rfl : v9 = _ := hall 9 (by decide)
      obtain rfl : v10 = _ := hall 10 (by decide)
      obtain rfl : v11 = _ := hall 11 (by decide)
      obtain rfl : v12 = _ := hall 12 (by decide)
      obtain rfl : v13 = _ := hall 13 (by decide)
      obtain rfl : v14 = _ := hall 14 (by decide)
      obtain rfl : v15 = _ := hall 15 (by decide)
      obtain rfl : v16 = _ := hall 16 (by decide)
      obtain rfl : v17 = _ := hall 17 (by decide)
      obtain rfl : v18 = _ := hall 18 (by decide)
      obtain rfl : v19 = _ := hall 19 (by decide)
      obtain rfl : v20 = _ := hall 20 (by decide)
      obtain rfl : v21 = _ := hall 21 (by decide)
      obtain rfl : v22 = _ := hall 22 (by decide)
      obtain rfl : v23 = _ := hall 23 (by decide)
      obtain rfl : v24 = _ := hall 24 (by decide)
      obtain rfl : v25 = _ := hall 25 (by decide)
      obtain rfl : v26 = _ := hall 26 (by decide)
      obtain rfl : v27 = _ := hall 27 (by decide)
      obtain rfl : v28 = _ := hall 28 (by decide)
      obtain rfl : v29 = _ := hall 29 (by decide)
      obtain rfl : v30 = _ := hall 30 (by decide)
      simp only [putAll, List.setIfInBounds_toArray, List.set_cons_zero, List.set_cons_succ]
      replace HB := Lib.hid (HB.out.trans (hb.mono HB.out.size))
      replace HGL := Lib.hid (heap_on hb HGL.out)
      replace HX6 := Lib.hid (HX6.out.below hb)
      clear hb hvl hall H9 H12 HG HX5 HVC HRV HED
      go_upto_region 9 with fail
      go_upto_region 10 with (with_reducible refine (wnew_call _).mono ?_; rintro e w8 ⟨rfl, hw8, hb8⟩)
      have HW8 := Lib.hid hw8
      have hgl := heap_on hb8 HGL.out
      clear hw8
      go_upto_region 11 with (first
        | (refine wpList_load_row rfl 23 _ rfl (w.heap.size + 1) rfl 23 (lg l) (0, 0) _ hgl Try.underlying23 rfl (lngIk h) ?_)
        | (with_reducible refine (HPU.out _ _ _ _ HW8.out).mono ?_; rintro e w9 ⟨rfl, A2, c2, hw9, hc9⟩))
      have hb9 : Below w'.heap.size w' w9 := hb8.trans (hc9.below hb8.size (fun k e => by rcases e with e | e; omega; cases e))
      have HW := Lib.hid hw9
      replace HB := Lib.hid (HB.out.trans (hb9.mono HB.out.size))
      replace HX6 := Lib.hid (HX6.out.below hb9)
      clear hb8 hc9 hw9 hb9 hgl HGL HW8 HPU
      have hs9 := HS.out.below HB.out
      go_upto_region 12 with (first
        | (with_reducible refine (HRC.out _ hs9).mono ?_; rintro e x1 ⟨rfl, hbx⟩)
        | (refine wpList_store_row rfl 23 _ _ rfl x1.heap.size (lg Lr) rfl rfl 23 (lg zL) (heap_alloc_last x1 _) (lngIk HLR.out) (by rw [lg_size zL_lng, hlr]) (lg_all _) ?_))
      rw [World.setRow_alloc_new]
      try simp only [Act.put]
      have hby := hbx.alloc (o := .cells (lg Lr) 23) hbx.size
      have h21 := heap_alloc_last x1 (.cells (lg Lr) 23)
      obtain ⟨g21, hg21⟩ : ∃ g21, g21 = x1.heap.size := ⟨_, rfl⟩
      rw [← hg21] at h21 ⊢
      have H21 := Lib.hid h21
      replace HB := Lib.hid (HB.out.trans (hby.mono HB.out.size))
      replace HX6 := Lib.hid (HX6.out.below hby)
      replace HW := Lib.hid (HW.out.below hby)
      clear hg21 h21 hby hbx hs9 HRC
      generalize x1.alloc (.cells (lg Lr) 23) = w10 at H21 HB HX6 HW ⊢
      have hs9 := HS.out.below HB.out
      go_upto_region 13 with (first
        | (with_reducible refine (HRR.out _ hs9).mono ?_; rintro e x1 ⟨rfl, hbx⟩)
        | (refine wpList_store_row rfl 23 _ _ rfl x1.heap.size (lg Lr) rfl rfl 23 (lg zL) (heap_alloc_last x1 _) (lngIk HLR.out) (by rw [lg_size zL_lng, hlr]) (lg_all _) ?_))
      rw [World.setRow_alloc_new]
      try simp only [Act.put]
      have hby := hbx.alloc (o := .cells (lg Lr) 23) hbx.size
      have h24 := heap_alloc_last x1 (.cells (lg Lr) 23)
      obtain ⟨g24, hg24⟩ : ∃ g24, g24 = x1.heap.size := ⟨_, rfl⟩
      rw [← hg24] at h24 ⊢
      have H24 := Lib.hid h24
      replace HB := Lib.hid (HB.out.trans (hby.mono HB.out.size))
      replace HX6 := Lib.hid (HX6.out.below hby)
      replace HW := Lib.hid (HW.out.below hby)
      replace H21 := Lib.hid (heap_on hby H21.out)
      clear hg24 h24 hby hbx hs9 HRR
      generalize x1.alloc (.cells (lg Lr) 23) = w11 at H21 H24 HB HX6 HW ⊢
      obtain ⟨p, hp⟩ : ∃ p, w'.heap.size = p := ⟨_, rfl⟩
      rw [hp] at HW ⊢
      clear hp
      obtain ⟨nb, hnb⟩ : ∃ nb, (X + 7) / 8 = nb := ⟨_, rfl⟩
      obtain ⟨PB, hPB⟩ : ∃ PB, packB x = PB := ⟨_, rfl⟩
      have hPl : PB.length = nb := by rw [← hPB, packB_length, HX.out, hnb]
      have HPL := Lib.hid hPl
      have HNB := Lib.hid hnb
      have HPB := Lib.hid hPB
      clear hPl hnb hPB
      refine wp_region_inv (J := Js [eqv (.int .i64 E2), eqv (.int .i64 E2), eqv (.bool true), eqv (.bool true), eqv (.pointer (some ⟨p, 0, none⟩)), eqv (.int .i64 X), eqv (.slice a6 X c6), eqv (.int .i64 X), eqv (.bool true), eqv (.bool true), eqv (.bool true), eqv (.pointer (some ⟨p, 0, none⟩)), IsU nb PB, eqv (.string (bstr PB)), eqv (.slice a6 X c6), IsU nb PB, eqv (.string (bstr PB)), eqv (.bool true), eqv (.bool true), eqv (.bool true), eqv (.agg (lg Lr)), eqv (.agg (lg Lr)), eqv (.bool true), eqv (.bool true), eqv (.bool true), eqv (.int .i64 nr), eqv (.int .i64 nr), eqv (.bool true), eqv (.bool true), eqv (.bool true), eqv (.int .i64 er), eqv (.int .i64 er), eqv (.bool true), eqv (.bool true), eqv (.bool true), eqv (.bool true), eqv (.bool true), eqv (.bool true)]) (ds := [102, 103, 104, 105, 106, 107, 108, 109, 110, 111, 112, 113, 114, 115, 116, 117, 118, 119, 120, 121, 122, 123, 124, 125, 126, 127, 128, 129, 130, 131, 132, 133, 134, 135, 136, 137, 138, 8]) (N := 139)
        (B := [(17, .slice a6 X c6), (18, .int .i64 E2), (19, .pointer (some ⟨p, 0, none⟩)), (20, .int .i64 E2), (21, .pointer (some ⟨g21, 0, none⟩)), (22, .int .i64 nr), (23, .int .i64 er), (24, .pointer (some ⟨g24, 0, none⟩)), (25, .int .i64 nr), (26, .int .i64 er)]) (by kernel_rfl) (by kernel_rfl) (Js_mono ⟨eqv_mono _, eqv_mono _, eqv_mono _, eqv_mono _, eqv_mono _, eqv_mono _, eqv_mono _, eqv_mono _, eqv_mono _, eqv_mono _, eqv_mono _, eqv_mono _, IsU_mono _ _, eqv_mono _, eqv_mono _, IsU_mono _ _, eqv_mono _, eqv_mono _, eqv_mono _, eqv_mono _, eqv_mono _, eqv_mono _, eqv_mono _, eqv_mono _, eqv_mono _, eqv_mono _, eqv_mono _, eqv_mono _, eqv_mono _, eqv_mono _, eqv_mono _, eqv_mono _, eqv_mono _, eqv_mono _, eqv_mono _, eqv_mono _, eqv_mono _, eqv_mono _, trivial⟩) rfl rfl (by simp) ?_ ?_
      · refine ⟨?_, ?_, ?_, ?_, ?_, ?_, ?_, ?_, ?_, ?_, ?_, ?_, ?_, ?_, ?_, ?_, ?_, ?_, ?_, ?_, ?_, ?_, ?_, ?_, ?_, ?_, ?_, ?_, ?_, ?_, ?_, ?_, ?_, ?_, ?_, ?_, ?_, ?_, trivial⟩
        · intro a w' hb hdep K hK
          have c20 := hb.at 3 20 _ rfl
          clear hdep
          go_simp
          exact hK _ _ rfl (Below.refl _ _)
        · intro a w' hb hdep K hK
          have c18 := hb.at 1 18 _ rfl
          clear hdep
          go_simp
          exact hK _ _ rfl (Below.refl _ _)
        · intro a w' hb hdep K hK
          obtain ⟨v0, e0, j0⟩ := hdep 0 (by kernel_rfl)
          replace e0 : a.tmps[102]? = some v0 := e0
          obtain rfl : v0 = _ := j0
          obtain ⟨v1, e1, j1⟩ := hdep 1 (by kernel_rfl)
          replace e1 : a.tmps[103]? = some v1 := e1
          obtain rfl : v1 = _ := j1
          clear hdep
          go_simp
          exact hK _ _ rfl (Below.refl _ _)
        · intro a w' hb hdep K hK
          obtain ⟨v2, e2, j2⟩ := hdep 2 (by kernel_rfl)
          replace e2 : a.tmps[104]? = some v2 := e2
          obtain rfl : v2 = _ := j2
          clear hdep
          go_simp
          exact hK _ _ rfl (Below.refl _ _)
        · intro a w' hb hdep K hK
          have c19 := hb.at 2 19 _ rfl
          obtain ⟨v3, e3, j3⟩ := hdep 3 (by kernel_rfl)
          replace e3 : a.tmps[105]? = some v3 := e3
          obtain rfl : v3 = _ := j3
          clear hdep
          go_simp
          exact hK _ _ rfl (Below.refl _ _)
        · intro a w' hb hdep K hK
          obtain ⟨v4, e4, j4⟩ := hdep 4 (by kernel_rfl)
          replace e4 : a.tmps[106]? = some v4 := e4
          obtain rfl : v4 = _ := j4
          obtain ⟨v3, e3, j3⟩ := hdep 3 (by kernel_rfl)
          replace e3 : a.tmps[105]? = some v3 := e3
          obtain rfl : v3 = _ := j3
          clear hdep
          go_simp
          go_at_call 19
          refine (wlen_at (HW.out.below hb.bel) HX.out).mono ?_
          rintro e w20 ⟨rfl, rfl⟩
          exact hK _ _ rfl (Below.refl _ _)
        · intro a w' hb hdep K hK
          have c17 := hb.at 0 17 _ rfl
          obtain ⟨v3, e3, j3⟩ := hdep 3 (by kernel_rfl)
          replace e3 : a.tmps[105]? = some v3 := e3
          obtain rfl : v3 = _ := j3
          clear hdep
          go_simp
          exact hK _ _ rfl (Below.refl _ _)
        · intro a w' hb hdep K hK
          obtain ⟨v6, e6, j6⟩ := hdep 6 (by kernel_rfl)
          replace e6 : a.tmps[108]? = some v6 := e6
          obtain rfl : v6 = _ := j6
          obtain ⟨v3, e3, j3⟩ := hdep 3 (by kernel_rfl)
          replace e3 : a.tmps[105]? = some v3 := e3
          obtain rfl : v3 = _ := j3
          clear hdep
          go_simp
          exact hK _ _ rfl (Below.refl _ _)
        · intro a w' hb hdep K hK
          obtain ⟨v5, e5, j5⟩ := hdep 5 (by kernel_rfl)
          replace e5 : a.tmps[107]? = some v5 := e5
          obtain rfl : v5 = _ := j5
          obtain ⟨v7, e7, j7⟩ := hdep 7 (by kernel_rfl)
          replace e7 : a.tmps[109]? = some v7 := e7
          obtain rfl : v7 = _ := j7
          obtain ⟨v3, e3, j3⟩ := hdep 3 (by kernel_rfl)
          replace e3 : a.tmps[105]? = some v3 := e3
          obtain rfl : v3 = _ := j3
          clear hdep
          go_simp
          exact hK _ _ rfl (Below.refl _ _)
        · intro a w' hb hdep K hK
          obtain ⟨v3, e3, j3⟩ := hdep 3 (by kernel_rfl)
          replace e3 : a.tmps[105]? = some v3 := e3
          obtain rfl : v3 = _ := j3
          obtain ⟨v8, e8, j8⟩ := hdep 8 (by kernel_rfl)
          replace e8 : a.tmps[110]? = some v8 := e8
          obtain rfl : v8 = _ := j8
          clear hdep
          go_simp
          exact hK _ _ rfl (Below.refl _ _)
        · intro a w' hb hdep K hK
          obtain ⟨v9, e9, j9⟩ := hdep 9 (by kernel_rfl)
          replace e9 : a.tmps[111]? = some v9 := e9
          obtain rfl : v9 = _ := j9
          clear hdep
          go_simp
          exact hK _ _ rfl (Below.refl _ _)
        · intro a w' hb hdep K hK
          have c19 := hb.at 2 19 _ rfl
          obtain ⟨v10, e10, j10⟩ := hdep 10 (by kernel_rfl)
          replace e10 : a.tmps[112]? = some v10 := e10
          obtain rfl : v10 = _ := j10
          clear hdep
          go_simp
          exact hK _ _ rfl (Below.refl _ _)
        · intro a w' hb hdep K hK
          obtain ⟨v11, e11, j11⟩ := hdep 11 (by kernel_rfl)
          replace e11 : a.tmps[113]? = some v11 := e11
          obtain rfl : v11 = _ := j11
          obtain ⟨v10, e10, j10⟩ := hdep 10 (by kernel_rfl)
          replace e10 : a.tmps[112]? = some v10 := e10
          obtain rfl : v10 = _ := j10
          clear hdep
          go_simp
          go_at_call 20
          refine (wbytes_at (n := nb) (P := PB) (HW.out.below hb.bel) (by rw [HX.out]; exact HNB.out) HPB.out).mono ?_
          rintro e w20 ⟨v20, rfl, hv20, hb20⟩
          exact hK _ _ hv20 hb20
        · intro a w' hb hdep K hK
          obtain ⟨v12, e12, j12⟩ := hdep 12 (by kernel_rfl)
          replace e12 : a.tmps[114]? = some v12 := e12
          obtain ⟨v10, e10, j10⟩ := hdep 10 (by kernel_rfl)
          replace e10 : a.tmps[112]? = some v10 := e10
          obtain rfl : v10 = _ := j10
          clear hdep
          obtain ⟨a20, c20, rfl, hs20⟩ := j12
          have hcv := run_bstr (P := Try.prog) sliceT byteT strT w' a20 nb c20 PB HPL.out hs20
          clear hs20
          go_simp
          exact hK _ _ rfl (Below.refl _ _)
        · intro a w' hb hdep K hK
          have c17 := hb.at 0 17 _ rfl
          obtain ⟨v10, e10, j10⟩ := hdep 10 (by kernel_rfl)
          replace e10 : a.tmps[112]? = some v10 := e10
          obtain rfl : v10 = _ := j10
          clear hdep
          go_simp
          exact hK _ _ rfl (Below.refl _ _)
        · intro a w' hb hdep K hK
          obtain ⟨v14, e14, j14⟩ := hdep 14 (by kernel_rfl)
          replace e14 : a.tmps[116]? = some v14 := e14
          obtain rfl : v14 = _ := j14
          obtain ⟨v10, e10, j10⟩ := hdep 10 (by kernel_rfl)
          replace e10 : a.tmps[112]? = some v10 := e10
          obtain rfl : v10 = _ := j10
          clear hdep
          go_simp
          go_at_call 21
          refine (rbytes_at w' a6 X c6 nb x PB HX.out (HX6.out.below hb.bel) HXB.out hxl HNB.out HPB.out).mono ?_
          rintro e w20 ⟨v20, rfl, hv20, hb20⟩
          exact hK _ _ hv20 hb20
        · intro a w' hb hdep K hK
          obtain ⟨v15, e15, j15⟩ := hdep 15 (by kernel_rfl)
          replace e15 : a.tmps[117]? = some v15 := e15
          obtain ⟨v10, e10, j10⟩ := hdep 10 (by kernel_rfl)
          replace e10 : a.tmps[112]? = some v10 := e10
          obtain rfl : v10 = _ := j10
          clear hdep
          obtain ⟨a20, c20, rfl, hs20⟩ := j15
          have hcv := run_bstr (P := Try.prog) sliceT byteT strT w' a20 nb c20 PB HPL.out hs20
          clear hs20
          go_simp
          exact hK _ _ rfl (Below.refl _ _)
        · intro a w' hb hdep K hK
          obtain ⟨v13, e13, j13⟩ := hdep 13 (by kernel_rfl)
          replace e13 : a.tmps[115]? = some v13 := e13
          obtain rfl : v13 = _ := j13
          obtain ⟨v16, e16, j16⟩ := hdep 16 (by kernel_rfl)
          replace e16 : a.tmps[118]? = some v16 := e16
          obtain rfl : v16 = _ := j16
          obtain ⟨v10, e10, j10⟩ := hdep 10 (by kernel_rfl)
          replace e10 : a.tmps[112]? = some v10 := e10
          obtain rfl : v10 = _ := j10
          clear hdep
          go_simp
          exact hK _ _ rfl (Below.refl _ _)
        · intro a w' hb hdep K hK
          obtain ⟨v10, e10, j10⟩ := hdep 10 (by kernel_rfl)
          replace e10 : a.tmps[112]? = some v10 := e10
          obtain rfl : v10 = _ := j10
          obtain ⟨v17, e17, j17⟩ := hdep 17 (by kernel_rfl)
          replace e17 : a.tmps[119]? = some v17 := e17
          obtain rfl : v17 = _ := j17
          clear hdep
          go_simp
          exact hK _ _ rfl (Below.refl _ _)
        · intro a w' hb hdep K hK
          obtain ⟨v18, e18, j18⟩ := hdep 18 (by kernel_rfl)
          replace e18 : a.tmps[120]? = some v18 := e18
          obtain rfl : v18 = _ := j18
          clear hdep
          go_simp
          exact hK _ _ rfl (Below.refl _ _)
        · intro a w' hb hdep K hK
          have c21 := hb.at 4 21 _ rfl
          obtain ⟨v19, e19, j19⟩ := hdep 19 (by kernel_rfl)
          replace e19 : a.tmps[121]? = some v19 := e19
          obtain rfl : v19 = _ := j19
          clear hdep
          refine wanted_row 19 true rfl 121 rfl (by assumption) 23 _ rfl g21 (by simp [Act.eval, c21]) 23 (lg Lr) (0, 0) _ (heap_on hb.bel H21.out) Try.underlying23 rfl (lngIk HLR.out) ?_
          exact hK _ _ rfl (Below.refl _ _)
        · intro a w' hb hdep K hK
          have c24 := hb.at 7 24 _ rfl
          obtain ⟨v19, e19, j19⟩ := hdep 19 (by kernel_rfl)
          replace e19 : a.tmps[121]? = some v19 := e19
          obtain rfl : v19 = _ := j19
          clear hdep
          refine wanted_row 19 true rfl 121 rfl (by assumption) 23 _ rfl g24 (by simp [Act.eval, c24]) 23 (lg Lr) (0, 0) _ (heap_on hb.bel H24.out) Try.underlying23 rfl (lngIk HLR.out) ?_
          exact hK _ _ rfl (Below.refl _ _)
        · intro a w' hb hdep K hK
          obtain ⟨v20, e20, j20⟩ := hdep 20 (by kernel_rfl)
          replace e20 : a.tmps[122]? = some v20 := e20
          obtain rfl : v20 = _ := j20
          obtain ⟨v21, e21, j21⟩ := hdep 21 (by kernel_rfl)
          replace e21 : a.tmps[123]? = some v21 := e21
          obtain rfl : v21 = _ := j21
          obtain ⟨v19, e19, j19⟩ := hdep 19 (by kernel_rfl)
          replace e19 : a.tmps[121]? = some v19 := e19
          obtain rfl : v19 = _ := j19
          have heq := HEL.out
          clear hdep
          go_simp
          exact hK _ _ rfl (Below.refl _ _)
        · intro a w' hb hdep K hK
          obtain ⟨v19, e19, j19⟩ := hdep 19 (by kernel_rfl)
          replace e19 : a.tmps[121]? = some v19 := e19
          obtain rfl : v19 = _ := j19
          obtain ⟨v22, e22, j22⟩ := hdep 22 (by kernel_rfl)
          replace e22 : a.tmps[124]? = some v22 := e22
          obtain rfl : v22 = _ := j22
          clear hdep
          go_simp
          exact hK _ _ rfl (Below.refl _ _)
        · intro a w' hb hdep K hK
          obtain ⟨v23, e23, j23⟩ := hdep 23 (by kernel_rfl)
          replace e23 : a.tmps[125]? = some v23 := e23
          obtain rfl : v23 = _ := j23
          clear hdep
          go_simp
          exact hK _ _ rfl (Below.refl _ _)
        · intro a w' hb hdep K hK
          have c22 := hb.at 5 22 _ rfl
          obtain ⟨v24, e24, j24⟩ := hdep 24 (by kernel_rfl)
          replace e24 : a.tmps[126]? = some v24 := e24
          obtain rfl : v24 = _ := j24
          clear hdep
          go_simp
          exact hK _ _ rfl (Below.refl _ _)
        · intro a w' hb hdep K hK
          have c25 := hb.at 8 25 _ rfl
          obtain ⟨v24, e24, j24⟩ := hdep 24 (by kernel_rfl)
          replace e24 : a.tmps[126]? = some v24 := e24
          obtain rfl : v24 = _ := j24
          clear hdep
          go_simp
          exact hK _ _ rfl (Below.refl _ _)
        · intro a w' hb hdep K hK
          obtain ⟨v25, e25, j25⟩ := hdep 25 (by kernel_rfl)
          replace e25 : a.tmps[127]? = some v25 := e25
          obtain rfl : v25 = _ := j25
          obtain ⟨v26, e26, j26⟩ := hdep 26 (by kernel_rfl)
          replace e26 : a.tmps[128]? = some v26 := e26
          obtain rfl : v26 = _ := j26
          obtain ⟨v24, e24, j24⟩ := hdep 24 (by kernel_rfl)
          replace e24 : a.tmps[126]? = some v24 := e24
          obtain rfl : v24 = _ := j24
          clear hdep
          go_simp
          exact hK _ _ rfl (Below.refl _ _)
        · intro a w' hb hdep K hK
          obtain ⟨v24, e24, j24⟩ := hdep 24 (by kernel_rfl)
          replace e24 : a.tmps[126]? = some v24 := e24
          obtain rfl : v24 = _ := j24
          obtain ⟨v27, e27, j27⟩ := hdep 27 (by kernel_rfl)
          replace e27 : a.tmps[129]? = some v27 := e27
          obtain rfl : v27 = _ := j27
          clear hdep
          go_simp
          exact hK _ _ rfl (Below.refl _ _)
        · intro a w' hb hdep K hK
          obtain ⟨v28, e28, j28⟩ := hdep 28 (by kernel_rfl)
          replace e28 : a.tmps[130]? = some v28 := e28
          obtain rfl : v28 = _ := j28
          clear hdep
          go_simp
          exact hK _ _ rfl (Below.refl _ _)
        · intro a w' hb hdep K hK
          have c23 := hb.at 6 23 _ rfl
          obtain ⟨v29, e29, j29⟩ := hdep 29 (by kernel_rfl)
          replace e29 : a.tmps[131]? = some v29 := e29
          obtain rfl : v29 = _ := j29
          clear hdep
          go_simp
          exact hK _ _ rfl (Below.refl _ _)
        · intro a w' hb hdep K hK
          have c26 := hb.at 9 26 _ rfl
          obtain ⟨v29, e29, j29⟩ := hdep 29 (by kernel_rfl)
          replace e29 : a.tmps[131]? = some v29 := e29
          obtain rfl : v29 = _ := j29
          clear hdep
          go_simp
          exact hK _ _ rfl (Below.refl _ _)
        · intro a w' hb hdep K hK
          obtain ⟨v30, e30, j30⟩ := hdep 30 (by kernel_rfl)
          replace e30 : a.tmps[132]? = some v30 := e30
          obtain rfl : v30 = _ := j30
          obtain ⟨v31, e31, j31⟩ := hdep 31 (by kernel_rfl)
          replace e31 : a.tmps[133]? = some v31 := e31
          obtain rfl : v31 = _ := j31
          obtain ⟨v29, e29, j29⟩ := hdep 29 (by kernel_rfl)
          replace e29 : a.tmps[131]? = some v29 := e29
          obtain rfl : v29 = _ := j29
          clear hdep
          go_simp
          exact hK _ _ rfl (Below.refl _ _)
        · intro a w' hb hdep K hK
          obtain ⟨v29, e29, j29⟩ := hdep 29 (by kernel_rfl)
          replace e29 : a.tmps[131]? = some v29 := e29
          obtain rfl : v29 = _ := j29
          obtain ⟨v32, e32, j32⟩ := hdep 32 (by kernel_rfl)
          replace e32 : a.tmps[134]? = some v32 := e32
          obtain rfl : v32 = _ := j32
          clear hdep
          go_simp
          exact hK _ _ rfl (Below.refl _ _)
        · intro a w' hb hdep K hK
          obtain ⟨v33, e33, j33⟩ := hdep 33 (by kernel_rfl)
          replace e33 : a.tmps[135]? = some v33 := e33
          obtain rfl : v33 = _ := j33
          clear hdep
          go_simp
          exact hK _ _ rfl (Below.refl _ _)
        · intro a w' hb hdep K hK
          obtain ⟨v34, e34, j34⟩ := hdep 34 (by kernel_rfl)
          replace e34 : a.tmps[136]? = some v34 := e34
          obtain rfl : v34 = _ := j34
          clear hdep
          go_simp
          go_at_call 7
          refine (wakes_call w').mono ?_
          rintro e w20 ⟨rfl, hb20⟩
          exact hK _ _ rfl hb20
        · intro a w' hb hdep K hK
          obtain ⟨v34, e34, j34⟩ := hdep 34 (by kernel_rfl)
          replace e34 : a.tmps[136]? = some v34 := e34
          obtain rfl : v34 = _ := j34
          obtain ⟨v35, e35, j35⟩ := hdep 35 (by kernel_rfl)
          replace e35 : a.tmps[137]? = some v35 := e35
          obtain rfl : v35 = _ := j35
          clear hdep
          go_simp
          exact hK _ _ rfl (Below.refl _ _)
        · intro a w' hb hdep K hK
          obtain ⟨v36, e36, j36⟩ := hdep 36 (by kernel_rfl)
          replace e36 : a.tmps[138]? = some v36 := e36
          obtain rfl : v36 = _ := j36
          clear hdep
          go_simp
          exact hK _ _ rfl (Below.refl _ _)
      · intro a wz hb hall
        obtain ⟨v, h6, hv⟩ := hall 37 (by decide)
        obtain rfl : v = .bool true := hv
        have HBB := Lib.hid (HB.out.trans (hb.bel.mono HB.out.size))
        have hd := hb.defers
        clear hall hb
        go_wp2
        replace h6 : a.tmps[8]? = some (.bool true) := h6
        exact bodyPost_ret (v := .bool true) (by simp [results, Try.results3, go_sem, h6]) hd ⟨rfl, HBB.out⟩
theorem matches_call (t : TS) (hT : Tst t) (bit : Int) (l : List Int) (h : Lng l) (sp : Option Addr) (n cap : Nat) (q : List Int) (w : World) (hr : IsRow .i64 w sp n cap q) :
    Calls Try.prog 3 #[.agg (tg t), .int .i64 bit, .agg (lg l), .slice sp n cap] w fun e w' => e = .returned (.bool true) ∧ Below w.heap.size w w' := by
  obtain ⟨hl, hs, hwf, h63, _⟩ := hr.src
  by_cases hn : 9000 < n
  · exact matches_long t bit l sp n cap h63 hn w
  · exact matches_short t hT bit l h sp n cap _ hl (by omega) w hs
end Go.Proofs.Ytckopdifjhjppaa
