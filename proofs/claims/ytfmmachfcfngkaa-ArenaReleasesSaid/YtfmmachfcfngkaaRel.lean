/- The walk over winepresslaw01.ArenaReleases. -/
import Derived.Test.YtfmmachfcfngkaaWords
import Derived.StillTailTactics
set_option linter.unusedVariables false
set_option linter.unusedSimpArgs false
namespace Go.Proofs.Ytfmmachfcfngkaa
open Go.RowKit

set_option maxRecDepth 100000 in
set_option maxHeartbeats 1000000 in
theorem rel_long (a0 : Option Addr) (len0 cap0 : Nat) (i v : Int) (w : World) (h : 200 < len0) (h63 : len0 ≤ 9223372036854775807) :
    Calls Try.prog 6 #[.slice a0 len0 cap0, .int .i64 i, .int .i64 v] w fun e w' => e = .returned (.bool true) ∧ Below w.heap.size w w' := by
  have d : decide ((200 : Int) < (len0 : Int)) = true := by simp; omega
  go_enter Try.func6, Try.ntmps6
  go_wp2_with fail
  refine (wakes_call w).mono ?_
  rintro e w1 ⟨rfl, hb⟩
  go_wp2
  go_ret
  exact ⟨rfl, hb⟩

theorem release_any {w : World} {p q : Nat} {mem : List Int} {live peak : Nat} (h : Ar w p q mem live peak) (m : Int) :
    Calls Try.prog 29 #[.pointer (some ⟨p, 0, none⟩), .int .i64 m] w fun e w' =>
      e = .returned (.bool (decide (0 ≤ m) && decide (m ≤ live))) ∧ Kp p q w w' ∧ Ar w' p q mem (if 0 ≤ m ∧ m ≤ live then m.toNat else live) peak := by
  by_cases hm : 0 ≤ m ∧ m ≤ live
  · obtain ⟨k, rfl⟩ := Int.eq_ofNat_of_zero_le hm.1
    have e1 : (decide (0 ≤ (k : Int)) && decide ((k : Int) ≤ live)) = true := by simp; omega
    rw [e1, if_pos hm, Int.toNat_natCast]
    exact release_yes h k (by omega)
  · have e1 : (decide (0 ≤ m) && decide (m ≤ live)) = false := by simp; omega
    rw [e1, if_neg hm]
    exact release_no h m hm

/-- The two or three outcomes of Take. -/
theorem take_bad {w : World} {p q : Nat} {mem : List Int} {live peak : Nat} (h : Ar w p q mem live peak) (n : Int) (hn : ¬ (0 ≤ n ∧ n ≤ (mem.length : Int) - live)) :
    Calls Try.prog 25 #[.pointer (some ⟨p, 0, none⟩), .int .i64 n] w fun e w' =>
      ∃ c : Int, e = .returned (.tuple #[.agg #[.int .i64 0, .int .i64 0], .int .i64 c]) ∧ c ≠ 0 ∧ Below w.heap.size w w' := by
  by_cases h0 : n < 0
  · exact (take_neg w p n h0).mono fun e w' ⟨h1, h2⟩ => ⟨2, h1, by omega, h2⟩
  · exact (take_full h n (by omega) (by omega)).mono fun e w' ⟨h1, h2⟩ => ⟨10, h1, by omega, h2⟩

theorem seg_front (l : List Int) (live : Nat) (h : live ≤ l.length) (h2 : l.length ≤ 200) : seg (splice (List.replicate 200 0) 0 l) 0 live = l.take live := by
  apply List.ext_getElem?
  intro i
  rw [seg_getElem?, splice_getElem? _ _ _ (by rw [List.length_replicate]; omega), List.getElem?_take]
  by_cases hi : i < live
  · rw [if_pos hi, if_pos hi, if_pos (by omega)]
    congr 1
    omega
  · rw [if_neg hi, if_neg hi]

theorem cases_take {mem : List Int} (live : Nat) (h : mem.length = 200) (hl : live ≤ 200) (v : Int) : (∃ k : Nat, v = k ∧ live + k ≤ mem.length ∧ decide ((k : Int) ≤ 200 - (live : Int)) = true) ∨
    (¬ (0 ≤ v ∧ v ≤ (mem.length : Int) - live) ∧ (decide (0 ≤ v) = true ∧ decide (v ≤ (200 : Int) - live) = false ∨ decide (0 ≤ v) = false)) := by
  by_cases c1 : 0 ≤ v
  · by_cases c2 : v ≤ (200 : Int) - live
    · exact .inl ⟨v.toNat, by omega, by omega, by simp; omega⟩
    · exact .inr ⟨by omega, .inl ⟨by simpa using c1, by simpa using c2⟩⟩
  · exact .inr ⟨by omega, .inr (by simpa using c1)⟩

theorem seg_splice_before (m cs : List Int) (o a n : Nat) (h : o + cs.length ≤ m.length) (h2 : a + n ≤ o) : seg (splice m o cs) a n = seg m a n := by
  apply List.ext_getElem?
  intro i
  rw [seg_getElem?, seg_getElem?, splice_getElem? _ _ _ h]
  by_cases hi : i < n
  · rw [if_pos hi, if_pos hi, if_neg (by omega)]
  · rw [if_neg hi, if_neg hi]

theorem wrap_sum {a b : Nat} {m : Nat} (h : a + b ≤ m) (hm : m = 200) : IntKind.i64.wrap ((a : Int) + (b : Int)) = (a : Int) + (b : Int) := IntWalk.i64_in _ (by omega)
theorem bstr_new (w : World) (g n : Nat) (l : List Int) (t : TypeId) (fr : Nat × Nat) (hl : l.length = n) (hg : w.heap[g]? = some (.cells (icells .u8 l) t fr)) :
    (convert 36 9 (.slice (some ⟨g, 0, none⟩) n n)).run Try.prog w = .ok (.string (bstr l)) w :=
  run_bstr (P := Try.prog) sliceT byteT strT w _ n n l hl (Src.whole hg)

set_option maxRecDepth 100000 in
set_option maxHeartbeats 4000000 in
theorem rel_short (a0 : Option Addr) (cap0 : Nat) (m v : Int) (w : World) (l : List Int) (hs : Src w .u8 a0 l) (hby : Byts l) (h : l.length ≤ 200) (hcap : l.length ≤ cap0)
    (hm : -9223372036854775808 ≤ m) (hm' : m ≤ 9223372036854775807) (hi : -9223372036854775808 ≤ v) (hi' : v ≤ 9223372036854775807) :
    Calls Try.prog 6 #[.slice a0 l.length cap0, .int .i64 m, .int .i64 v] w fun e w' => e = .returned (.bool true) ∧ Below w.heap.size w w' := by
  have d : decide ((200 : Int) < (l.length : Int)) = false := by simp; omega
  obtain ⟨n, hn⟩ : ∃ n, n = l.length := ⟨_, rfl⟩
  have hfr := seg_front l
  rw [← hn] at h d hfr hcap ⊢
  have hF := Lib.hid (fun live h1 => hfr live h1 h)
  have hn' := Lib.hid hn
  have hS := Lib.hid hs
  have hY := Lib.hid hby
  clear hn hs hby hfr
  go_enter Try.func6, Try.ntmps6
  go_wp2_with fail
  refine (new_yes w 200 (by omega) (by omega)).mono ?_
  rintro e w1 ⟨p, q, rfl, hp, hq, a1, hb⟩
  have b1 := Lib.hid hb
  clear hb
  go_wp2_with fail
  refine (take_yes a1 n (by simp; omega)).mono ?_
  rintro e w2 ⟨rfl, k2, a2⟩
  rw [splice_rep 200 n (by omega), Nat.zero_add, Nat.zero_max] at a2
  rw [Int.natCast_zero]
  have b2 := Lib.hid (Kp.belowAll b1.out k2 b1.out.size hp hq)
  clear a1 b1 k2
  go_wp2_with fail
  refine (store_yes (a2.alloc _) 0 n 0 a0 n cap0 l hn'.out.symm (hS.out.below (b2.out.alloc b2.out.size _)) hY.out (by simp [hasB]) (by omega) (by omega)).mono ?_
  rintro e w3 ⟨rfl, k3, a3⟩
  rw [Nat.zero_add] at a3
  have b3 := Lib.hid (Kp.belowAll b2.out ((Kp.alloc p q _ _).trans k3) b2.out.size hp hq)
  clear a2 b2 k3
  go_wp2_with fail
  refine (release_any a3 m).mono ?_
  rintro e w4 ⟨rfl, k4, a4⟩
  have b4 := Lib.hid (Kp.belowAll b3.out k4 b3.out.size hp hq)
  clear a3 b3 k4
  have hcases : (∃ live : Nat, m = live ∧ live ≤ n) ∨ (decide (0 ≤ m) = true ∧ decide (m ≤ (n : Int)) = false) ∨ decide (0 ≤ m) = false := by
    by_cases c1 : 0 ≤ m
    · by_cases c2 : m ≤ n
      · exact .inl ⟨m.toNat, by omega, by omega⟩
      · exact .inr (.inl ⟨by simpa using c1, by simpa using c2⟩)
    · exact .inr (.inr (by simpa using c1))
  obtain ⟨live, hlive⟩ : ∃ x, x = (if 0 ≤ m ∧ m ≤ n then m.toNat else n) := ⟨_, rfl⟩
  rw [← hlive] at a4
  have hln : live ≤ n := by rw [hlive]; split <;> omega
  have HL := Lib.hid hlive
  clear hlive
  have hmem : (splice (List.replicate 200 (0 : Int)) 0 l).length = 200 := by rw [splice_length _ _ _ (by rw [← hn'.out, List.length_replicate]; omega), List.length_replicate]
  have hM := Lib.hid hmem
  clear hmem
  have hlive : (∃ lv : Nat, m = lv ∧ lv ≤ n ∧ live = lv ∧ decide (0 ≤ m) = true ∧ decide (m ≤ (n : Int)) = true) ∨ (live = n ∧ (decide (0 ≤ m) = true ∧ decide (m ≤ (n : Int)) = false ∨ decide (0 ≤ m) = false)) := by
    rcases hcases with ⟨lv, rfl, hlv⟩ | ⟨d1, d2⟩ | d1
    · exact .inl ⟨lv, rfl, hlv, by rw [HL.out, if_pos (by omega)]; simp, by simp, by simp; omega⟩
    · exact .inr ⟨by rw [HL.out, if_neg (by simp at d2; omega)], .inl ⟨d1, d2⟩⟩
    · exact .inr ⟨by rw [HL.out, if_neg (by simp at d1; omega)], .inr d1⟩
  clear hcases HL
  rcases hlive with ⟨lv, rfl, hle, rfl, d1, d2⟩ | ⟨rfl, ⟨d1, d2⟩ | d1⟩
  case' inr.inl => have hle := Nat.le_refl live
  case' inr.inr => have hle := Nat.le_refl live
  all_goals
    go_wp2_with fail
    rcases cases_take _ hM.out (Nat.le_trans hle h) v with ⟨t, rfl, ht, dv⟩ | ⟨hbad, ⟨e1, e2⟩ | e1⟩
    · have dt : decide (0 ≤ (t : Int)) = true := by simp
      refine (take_yes a4 t ht).mono ?_
      rintro e w5 ⟨rfl, k5, a5⟩
      have hp5 := Nat.ne_of_gt a4.plt
      have b5 := Lib.hid (Kp.belowAll b4.out k5 b4.out.size hp hq)
      clear a4 b4 k5
      go_wp2_with fail
      refine (peak_call (a5.alloc _)).mono ?_
      rintro e w6 ⟨rfl, hb⟩
      have a6 := (a5.alloc _).below hb
      have hp6 := Nat.ne_of_gt a5.plt
      have z5 : w5.heap.size < w6.heap.size := by have := hb.size; simp at this; omega
      have t0 := (hb.cell (p := ⟨w5.heap.size, 0, none⟩) (by simp)).trans (World.cell?_alloc_new _ _ _ _)
      have t1 := (hb.cell (p := ⟨w5.heap.size, 1, none⟩) (by simp)).trans (World.cell?_alloc_new _ _ _ _)
      simp at t0 t1
      have b6 := Lib.hid ((b5.out.alloc b5.out.size _).trans (hb.mono (by have := b5.out.size; simp; omega)))
      clear b5 hb a5
      go_wp2_with fail
      refine (load_yes a6 _ t (by simp [hasB]) (Nat.le_refl _)).mono ?_
      rintro e w7 ⟨g, rfl, hg, hr, hb⟩
      rw [show seg (splice (splice (List.replicate 200 0) 0 l) _ (List.replicate t 0)) _ t = List.replicate t (0 : Int) from by
        have := splice_seg (splice (List.replicate 200 (0 : Int)) 0 l) (List.replicate t 0) _ (by rw [List.length_replicate]; exact ht)
        rw [List.length_replicate] at this
        exact this] at hr ⊢
      rw [List.length_replicate]
      have a7 := a6.below hb
      have b7 := Lib.hid (b6.out.trans (hb.mono b6.out.size))
      have HR := Lib.hid hr
      have hgw := Nat.lt_of_lt_of_le a6.plt hg
      have hgw' := Nat.lt_of_lt_of_le a6.qlt hg
      clear a6 b6 hb t0 t1 z5 hr
      have ht2 : t ≤ 200 := by have := hM.out; omega
      go_wp2_with fail
      go_loop [16] (fun x => ∃ k : Nat, k ≤ t ∧ x = .int .i64 k) (fun x => t - (intOf x).toNat)
      case atStart => exact ⟨0, Nat.zero_le _, rfl⟩
      case round =>
        obtain ⟨k, hk, rfl⟩ := hrel
        by_cases hlt : k < t
        · have c0 := cell_icells HR.out k (by rw [List.length_replicate]; exact hlt)
          rw [show (List.replicate t (0 : Int)).getD k 0 = 0 from by simp [List.getElem?_replicate, hlt]] at c0
          go_wp2
          exact ⟨⟨k + 1, by omega, by go_num⟩, by simp [intOf]; omega⟩
        · obtain rfl : k = t := by omega
          go_wp2_with fail
          refine (load_yes a7 0 _ (by simp [hasB]; omega) (by omega)).mono ?_
          rintro e w8 ⟨g8, rfl, hg8, hr8, hb⟩
          rw [seg_splice_before _ _ _ 0 _ (by rw [List.length_replicate]; omega) (by omega), hF.out _ hle] at hr8 ⊢
          have a8 := a7.below hb
          have b8 := Lib.hid (b7.out.trans (hb.mono b7.out.size))
          have hlen : (l.take _).length = _ := List.length_take_of_le (Nat.le_trans hle (Nat.le_of_eq hn'.out))
          rw [hlen]
          have hc1 := bstr_new w8.drew g8 _ _ _ _ hlen hr8
          have hc2 := run_bstr (P := Try.prog) sliceT byteT strT w8.drew _ _ cap0 _ hlen ((hS.out.below b8.out.drew).take _)
          clear a7 b7 hb hg8 hr8 hlen
          go_wp2_with fail
          have hlc := Nat.le_trans hle hcap
          have hsum := wrap_sum ht hM.out
          go_still_tail 33, (by kernel_rfl)
          still_call ((mark_same a8.drew).mono fun e w' hh => ⟨hh.1, hh.2.symm⟩)
          repeat still_step
          still_call ((peak_same a8.drew).mono fun e w' hh => ⟨hh.1, hh.2.symm⟩)
          repeat still_step
          refine wpStill_nil ?_
          change wpList _ _ _ _ _ w8.drew
          have b8' := Lib.hid b8.out.drew
          clear hc1 hc2 a8 b8 hsum
          go_wp2_with fail
          all_goals
            refine (wakes_call _).mono ?_
            rintro e w9 ⟨rfl, hb⟩
            have b9 := Lib.hid (b8'.out.trans (hb.mono b8'.out.size))
            clear hb
            go_wp2
            go_ret
            exact ⟨rfl, b9.out⟩
    all_goals
      refine (take_bad a4 v hbad).mono ?_
      rintro e w5 ⟨c, rfl, hc, hb⟩
      have dc : (c == 0) = false := by simpa using hc
      have a5 := a4.below hb
      have b5 := Lib.hid (b4.out.trans (hb.mono b4.out.size))
      clear a4 b4 hb hc
      go_wp2_with fail
      refine (peak_call (a5.alloc _)).mono ?_
      rintro e w6 ⟨rfl, hb⟩
      have a6 := (a5.alloc _).below hb
      have b6 := Lib.hid ((b5.out.alloc b5.out.size _).trans (hb.mono (by have := b5.out.size; simp; omega)))
      clear a5 b5 hb
      go_wp2_with fail
      refine (mark_call a6).mono ?_
      rintro e w7 ⟨rfl, hb⟩
      have a7 := a6.below hb
      have b7 := Lib.hid (b6.out.trans (hb.mono b6.out.size))
      clear a6 b6 hb
      go_wp2_with fail
      refine (peak_call a7).mono ?_
      rintro e w8 ⟨rfl, hb⟩
      have b8 := Lib.hid (b7.out.trans (hb.mono b7.out.size))
      clear a7 b7 hb
      go_wp2_with fail
      refine (wakes_call w8).mono ?_
      rintro e w9 ⟨rfl, hb⟩
      have b9 := Lib.hid (b8.out.trans (hb.mono b8.out.size))
      clear hb
      go_wp2
      go_ret
      exact ⟨rfl, b9.out⟩

theorem rel_call (a0 : Option Addr) (len0 cap0 : Nat) (z0 : List Int) (i v : Int) (w : World) (h0 : IsRow .u8 w a0 len0 cap0 z0) (h1 : (Lit.int .i64 i).wf = true) (h2 : (Lit.int .i64 v).wf = true) :
    Calls Try.prog 6 #[.slice a0 len0 cap0, .int .i64 i, .int .i64 v] w fun e w' => e = .returned (.bool true) ∧ Below w.heap.size w w' := by
  obtain ⟨hl, hs, hwf, h63, hcap⟩ := h0.src
  by_cases h : 200 < len0
  · exact rel_long a0 len0 cap0 i v w h h63
  · have b1 := bounds_i64 h1
    have b2 := bounds_i64 h2
    have := rel_short a0 cap0 i v w (z0.take len0) hs (Byts.of_wf hwf) (by omega) (by omega) (by omega) (by omega) (by omega) (by omega)
    rw [hl] at this
    exact this
end Go.Proofs.Ytfmmachfcfngkaa
