/- The walk over winepresslaw02.BitWriterOf. -/
import Derived.Test.YthofbdlnbfpfeaaBwWakes
import Derived.Deep.LoopGhost
set_option linter.unusedVariables false
set_option linter.unusedSimpArgs false
namespace Go.Proofs.Ythofbdlnbfpfeaa
open Go.RowKit

set_option maxRecDepth 100000 in
set_option maxHeartbeats 1000000 in
theorem oflaw_long (a0 : Option Addr) (len0 cap0 : Nat) (w : World) (h : 300 < len0) (h63 : len0 ≤ 9223372036854775807) :
    Calls Try.prog 6 #[.slice a0 len0 cap0] w fun e w' => e = .returned (.bool true) ∧ Below w.heap.size w w' := by
  have d : decide ((300 : Int) < (len0 : Int)) = true := by simp; omega
  go_enter Try.func6, Try.ntmps6
  go_wp2_with fail
  refine (wakes_call w).mono ?_
  rintro e w1 ⟨rfl, hb⟩
  go_wp2
  go_ret
  exact ⟨rfl, hb⟩

theorem bitsB_take8 (l : List Int) (h : ∀ x ∈ l, 0 ≤ x ∧ x ≤ 255) (k : Nat) (hk : k < l.length) : valV (((bitsB l).drop (8 * k)).take 8) = l.getD k 0 := by
  have e : ((bitsB l).drop (8 * k)).take 8 = bitsV (l.getD k 0) 8 := by
    apply List.ext_getElem
    · simp [bitsB_length, bitsV_length]; omega
    · intro i h1 h2
      rw [bitsV_length] at h2
      have e2 : (bitsB l)[8 * k + i]'(by rw [bitsB_length]; omega) = (bitsB l).getD (8 * k + i) 0 := (getD_in _ _ _).symm
      rw [List.getElem_take, List.getElem_drop, e2, bitsB_getD _ _ (by omega), show (8 * k + i) / 8 = k by omega, show (8 * k + i) % 8 = i by omega]
      have e3 : (bitsV (l.getD k 0) 8)[i]'(by rw [bitsV_length]; exact h2) = (bitsV (l.getD k 0) 8).getD i 0 := (getD_in _ _ _).symm
      rw [e3, bitsV_getD _ _ _ h2]
  rw [e]
  have := h (l.getD k 0) (by rw [getD_in _ _ hk]; exact List.getElem_mem hk)
  exact valV_bits 8 _ this.1 (by have e : ((2 ^ 8 : Nat) : Int) = 256 := rfl; omega)
theorem take_snoc_getD (l : List Int) (k : Nat) (hk : k < l.length) : l.take (k + 1) = l.take k ++ [l.getD k 0] := by
  rw [List.take_succ_eq_append_getElem hk, getD_in _ _ hk]
theorem Byts.of_wf' {l : List Int} (h : ∀ n ∈ l, (Lit.int .u8 n).wf = true) : ∀ x ∈ l, 0 ≤ x ∧ x ≤ 255 := fun x hx => bounds_u8 (h x hx)
theorem bitsV1 (x : Int) (h : x = 0 ∨ x = 1) : bitsV x 1 = [x] := by rcases h with rfl | rfl <;> rfl

set_option maxRecDepth 100000 in
set_option maxHeartbeats 4000000 in
theorem oflaw_short (a0 : Option Addr) (cap0 : Nat) (w : World) (l : List Int) (hs : Src w .u8 a0 l) (hby : ∀ x ∈ l, 0 ≤ x ∧ x ≤ 255) (h : l.length ≤ 300) :
    Calls Try.prog 6 #[.slice a0 l.length cap0] w fun e w' => e = .returned (.bool true) ∧ Below w.heap.size w w' := by
  have d : decide ((300 : Int) < (l.length : Int)) = false := by simp; omega
  obtain ⟨n, hn⟩ : ∃ n, n = l.length := ⟨_, rfl⟩
  rw [← hn] at h d ⊢
  have hn' := Lib.hid hn
  have hS := Lib.hid hs
  have hY := Lib.hid hby
  obtain ⟨B, hB⟩ : ∃ B, B = w.heap.size := ⟨_, rfl⟩
  rw [← hB]
  have hB' := Lib.hid hB
  clear hn hs hby hB
  go_enter Try.func6, Try.ntmps6
  go_wp2_with fail
  refine (of_call w a0 n cap0 l hn'.out.symm hS.out hY.out (by omega)).mono ?_
  rintro e w1 ⟨A, c, rfl, hO, hA, hb⟩
  have b1 := Lib.hid (hB'.out ▸ hb : Below B w w1)
  have hO1 := Lib.hid hO
  clear hb hO hA
  go_wp2_with fail
  refine (newB w1.heap.size w1 (Nat.le_refl _)).mono ?_
  rintro e w2 ⟨rfl, hw, hb⟩
  have hBw : B ≤ w1.heap.size := Nat.le_trans (Nat.le_of_eq hB'.out) b1.out.size
  have b2 := Lib.hid (b1.out.trans (hb.mono hBw))
  have hO2 := Lib.hid (hO1.out.below hb)
  have hAp : ∀ g, A = some g → g < w1.heap.size := fun g e => hO1.out.lt e
  obtain ⟨p, hp⟩ : ∃ p, p = w1.heap.size := ⟨_, rfl⟩
  rw [← hp] at hw hAp hBw ⊢
  clear hb hO1 hp b1
  have HA := Lib.hid hAp
  clear hAp
  go_wp2_with fail
  go_loopw [5] (fun x wr => ∃ (k : Nat) (A1 : Option Nat) (c1 : Nat), k ≤ 8 * n ∧ x = .int .i64 k ∧ WrB p wr p A1 c1 ((bitsB l).take k) ∧ Below p w2 wr) (fun x _ => 8 * n - (intOf x).toNat)
  case atStart => exact ⟨0, none, 0, Nat.zero_le _, rfl, hw, Below.refl _ _⟩
  case round =>
    obtain ⟨k, A1, c1, hk, rfl, hwr, hbr⟩ := hrel
    have HW := Lib.hid hwr
    have HB := Lib.hid hbr
    clear hwr hbr
    by_cases hlt : k < 8 * n
    · have hOr := hO2.out.ch (Ch.ofB HB.out) (fun g e => by have := HA.out g e; omega)
      have hLB : (bitsB l).length = 8 * n := by rw [bitsB_length, hn'.out]
      obtain ⟨g, rfl⟩ := hOr.pos (by omega)
      have hcl := hOr.cell k (by omega)
      have hbit := (bitsB_bin l).getD k
      have hts := take_snoc_getD (bitsB l) k (by omega)
      have htl : ((bitsB l).take k).length = k := by rw [List.length_take]; omega
      obtain ⟨x, hx⟩ : ∃ x, x = (bitsB l).getD k 0 := ⟨_, rfl⟩
      rw [← hx] at hcl hbit hts
      rw [ad0_some]
      have hx0 : 0 ≤ x := by omega
      have hx1 : x ≤ 1 := by omega
      have dx1 : decide (x < 0) = false := by simpa using hx0
      have dx2 : decide (1 < x) = false := by simpa using hx1
      have HBIT := Lib.hid hbit
      have HTS := Lib.hid hts
      have HTL := Lib.hid htl
      clear hx hbit hts hLB hOr htl
      go_wp2_with (go_at_call 20; go_must (refine (putB HW.out x hx0 (by omega) 1 (by omega) (by simp; omega) (by rw [HTL.out]; omega) ((bitsB l).take (k + 1)) (by rw [HTS.out, bitsV1 x HBIT.out])).mono ?_; rintro e w3 ⟨rfl, A3, c3, hw3, hb3⟩))
      go_roundw
      case rel => exact ⟨k + 1, A3, c3, by omega, by go_num, hw3, HB.out.trans hb3⟩
      case measure => simp [intOf]; omega
    · obtain rfl : k = 8 * n := by omega
      have b3 := Lib.hid (b2.out.trans (HB.out.mono hBw))
      have hS3 := Lib.hid (hS.out.below (hB'.out ▸ b3.out : Below w.heap.size w wr))
      have hall : (bitsB l).take (8 * n) = bitsB l := List.take_of_length_le (by rw [bitsB_length, hn'.out]; exact Nat.le_refl _)
      have HW3 := Lib.hid (hall ▸ HW.out : WrB p wr p A1 c1 (bitsB l))
      clear HW HB hall
      obtain ⟨wo, hwo⟩ : ∃ wo : World, wo = wr := ⟨_, rfl⟩
      rw [← hwo] at b3 hS3 HW3 ⊢
      clear hwo
      have e8n : ((8 * n : Nat) : Int) = 8 * (n : Int) := by omega
      go_wp2_with fail
      rw [e8n]
      clear e8n
      go_loopw [6] (fun x wr => ∃ k : Nat, k ≤ n ∧ x = .int .i64 k ∧ Below wo.heap.size wo wr) (fun x _ => n - (intOf x).toNat)
      case atStart => exact ⟨0, Nat.zero_le _, rfl, Below.refl _ _⟩
      case round =>
        obtain ⟨k, hk, rfl, hbr⟩ := hrel
        have HB := Lib.hid hbr
        clear hbr
        by_cases hlt : k < n
        · have hSr := hS3.out.below HB.out
          have hcell := hSr
          rcases hcell with rfl | ⟨g, o, rfl, hcl⟩
          · have := hn'.out
            simp at this
            omega
          have hc0 := hcl k (by rw [← hn'.out]; exact hlt)
          have hget := get_yes wr (some ⟨g, o, none⟩) n cap0 l hn'.out.symm hSr hY.out (8 * k) 8 (by omega) (by omega) (by omega)
          rw [bitsB_take8 l hY.out k (by rw [← hn'.out]; exact hlt)] at hget
          have e8 : ((8 * k : Nat) : Int) = 8 * (k : Int) := by omega
          rw [e8] at hget
          have hxb : 0 ≤ l.getD k 0 ∧ l.getD k 0 ≤ 255 := by
            rw [getD_in _ _ (by rw [← hn'.out]; exact hlt)]
            exact hY.out _ (List.getElem_mem _)
          obtain ⟨x, hx⟩ : ∃ x, x = l.getD k 0 := ⟨_, rfl⟩
          rw [← hx] at hc0 hget hxb
          obtain ⟨hx0, hx1⟩ := hxb
          have hcb : (⟨g, o + k, none⟩ : Addr).block < wr.heap.size := World.block_lt_of_cell? wr _ hc0
          have dx : (x != x) = false := by simp
          clear hx hcl hSr e8
          have HG := Lib.hid hget
          clear hget
          go_wp2_with (go_at_call 15; go_must (refine (HG.out).mono ?_; rintro e w5 ⟨rfl, hb5⟩; have hc5 := (hb5.cell hcb).trans hc0; have HB5 := Lib.hid hb5; clear hb5))
          go_roundw
          case rel => exact ⟨k + 1, by omega, by go_num, HB.out.trans (HB5.out.mono HB.out.size)⟩
          case measure => simp [intOf]; omega
        · obtain rfl : k = n := by omega
          have b5 := Lib.hid (b3.out.trans (HB.out.mono (Nat.le_trans hBw HW3.out.sz)))
          have hS5 := Lib.hid (hS3.out.below HB.out)
          have HW5 := Lib.hid (HW3.out.below HB.out)
          clear HB HW3 hS3 b3 b2
          go_wp2_with fail
          have hW8 : (bitsB l).length = 8 * k := by rw [bitsB_length, hn'.out]
          have hst := run_bstr (P := Try.prog) sliceT byteT strT wr a0 k cap0 l hn'.out.symm hS5.out
          have hst' := run_bstr (P := Try.prog) sliceT byteT strT wr.drew a0 k cap0 l hn'.out.symm hS5.out
          go_region_with (first
            | (go_at_call 13; go_must (refine (bytesB (B := p) (A := A1) (c := c1) (bs := bitsB l) ?_ k (by rw [hW8]; omega) l (packB_bitsB l hY.out)).mono ?_; (first | exact HW5.out | exact HW5.out.drew); rintro e w7 ⟨g, rfl, hg, hs, hb⟩; have hw7 := HW5.out.drew.below hb; have hst7 := run_bstr (P := Try.prog) sliceT byteT strT w7 a0 k cap0 l hn'.out.symm ((show Src wr.drew .u8 a0 l from hS5.out).below hb); have b7 := Lib.hid (b5.out.drew.trans (hb.mono (Nat.le_trans hBw HW5.out.sz)))))
            | (go_at_call 21; go_must (refine (padB hw7 0 (by rw [hW8]; omega) (bitsB l) (by simp)).mono ?_; rintro e w8 ⟨rfl, hw8, hb⟩; have b8 := Lib.hid (b7.out.trans (hb.mono hBw))))
            | (go_at_call 7; go_must (refine (wakes_call _).mono ?_; rintro e w9 ⟨rfl, hb⟩; have b9 := Lib.hid (b8.out.trans (hb.mono (Nat.le_trans hBw hw8.sz))))))
          all_goals go_wp2
          all_goals go_ret
          all_goals exact ⟨rfl, b9.out⟩

theorem oflaw_call (a0 : Option Addr) (len0 cap0 : Nat) (z0 : List Int) (w : World) (h0 : IsRow .u8 w a0 len0 cap0 z0) :
    Calls Try.prog 6 #[.slice a0 len0 cap0] w fun e w' => e = .returned (.bool true) ∧ Below w.heap.size w w' := by
  obtain ⟨hl, hs, hwf, h63, _⟩ := h0.src
  by_cases h : 300 < len0
  · exact oflaw_long a0 len0 cap0 w h h63
  · have := oflaw_short a0 cap0 w (z0.take len0) hs (Byts.of_wf' hwf) (by omega)
    rw [hl] at this
    exact this
end Go.Proofs.Ythofbdlnbfpfeaa
