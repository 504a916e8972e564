/- The walk over winepresslaw03.BitReaderAll. -/
import Derived.Test.YtjbbbojbjholfaaWkR
import Derived.Test.YtjbbbojbjholfaaRf3
import Derived.Test.YtjbbbojbjholfaaTwo
import Derived.Deep.DeepCutAuto
import Derived.Deep.CutBlock
set_option linter.unusedVariables false
set_option linter.unusedSimpArgs false
namespace Go.Proofs.Ytjbbbojbjholfaa
open Go.RowKit

/-- The state behind a round of the law's loop. -/
def AllS (B p1 p2 : Nat) (w : World) (C : List Chk) (aJ : Option Addr) (cJ at_ nx : Nat) (wr : World) : Prop :=
  ∃ a1 a2, Two B wr p1 a1 (joinC C) at_ p2 a2 (joinC (C.take nx)) at_ aJ cJ (joinC C) ∧ Below B w wr

theorem Two.fresh {B : Nat} {w : World} {p1 p2 c1 c2 : Nat} {aJ : Option Addr} {cJ : Nat} {J : List Int} (h1 : RdB B w p1 none c1 [] 0 false) (h2 : RdB B w p2 none c2 [] 0 false) (hJ : WinS w .u8 5 aJ cJ J) (h12 : p1 < p2) (hlt : ∀ g, blk aJ = some g → g < p1) :
    Two B w p1 none [] 0 p2 none [] 0 aJ cJ J := by
  refine ⟨⟨_, h1.rd⟩, ⟨_, h2.rd⟩, hJ, h1.fp, h2.fp, fun k e1 e2 => ?_, fun k e1 e2 => ?_, fun k e1 e2 => ?_, h1.sz⟩
  · rcases e1 with rfl | e1
    · rcases e2 with e2 | e2
      · omega
      · cases e2
    · cases e1
  · rcases e1 with rfl | e1
    · have := hlt _ e2
      omega
    · cases e1
  · rcases e1 with rfl | e1
    · have := hlt _ e2
      omega
    · cases e1
/-- The whole, fed to the first reader, in a slice that has just been made for it. -/
theorem Two.feed1 {B : Nat} {w : World} {p1 : Nat} {a1 : Option Addr} {u1 : Nat} {p2 : Nat} {a2 : Option Addr} {f2 : List Int} {u2 : Nat} {aJ : Option Addr} {cJ : Nat} {J : List Int} (h : Two B w p1 a1 [] u1 p2 a2 f2 u2 aJ cJ J) (N : Nat) (hN : J.length = N) (t : TypeId) (hby : Byts J) (hsm : J.length ≤ 1000000) :
    Calls Try.prog 11 #[.pointer (some ⟨p1, 0, none⟩), .slice (some ⟨w.heap.size, 0, none⟩) 1 1] (w.alloc (.cells #[.slice aJ N cJ] t)) fun x w' => x = .returned (.bool true) ∧ Step1 B w p1 J u1 p2 a2 f2 u2 aJ cJ J w' := by
  have hb : Below w.heap.size w (w.alloc (.cells #[.slice aJ N cJ] t)) := (Below.refl _ w).alloc (Nat.le_refl _) _
  have h' := h.below hb
  obtain ⟨c1, r1⟩ := h'.r1
  have hnew : ¬ Rp p1 a1 w.heap.size := fun e => by
    obtain ⟨c1', r1'⟩ := h.r1
    have := r1'.fpLt e
    omega
  have hcap := h.rj.cap
  rw [hN] at hcap
  have := feed_yes r1 (some ⟨w.heap.size, 0, none⟩) 1 1 [⟨aJ, N, cJ, J⟩] rfl (CSrc.one (heap_alloc_new w _)) (by simpa using (⟨hN, h'.rj.src, hby, hcap.1, hcap.2⟩ : OkC _ ⟨aJ, N, cJ, J⟩)) (by omega) (fun _ x e => by injection e with e; subst e; exact hnew)
    (by simpa using fun h0 x e e2 => h.s1j _ e2 (by rw [e]; rfl)) (by rw [joinC_one]; simpa using hsm)
  rw [joinC_one, List.nil_append] at this
  refine this.mono fun x w' ⟨h1, h2⟩ => ⟨h1, ?_⟩
  obtain ⟨a1', h3, h4⟩ := h'.step1 h2
  exact ⟨a1', h3, (hb.mono h.sz).trans h4⟩

set_option maxRecDepth 100000 in
set_option maxHeartbeats 8000000 in
theorem aalaw_call (sp : Option Addr) (n cc : Nat) (C : List Chk) (sw : Option Addr) (m cw : Nat) (W : List Int) (w : World) (hl : C.length = n) (hs : CSrc w sp C) (hok : ∀ d ∈ C, OkC w d) (hn : n ≤ 9223372036854775807)
    (hwl : W.length = m) (hws : Src w .i64 sw W) (hwb : ∀ x ∈ W, -9223372036854775808 ≤ x ∧ x ≤ 9223372036854775807) (hm63 : m ≤ 9223372036854775807) :
    Calls Try.prog 4 #[.slice sp n cc, .slice sw m cw] w fun e w' => e = .returned (.bool true) ∧ Below w.heap.size w w' := by
  obtain ⟨B, hB⟩ : ∃ B, B = w.heap.size := ⟨_, rfl⟩
  have hG := Lib.hid (great_call w sp n cc C hl hs hok hn)
  have hdlt : ∀ d ∈ C, 0 < d.bs.length → ∀ x, d.a = some x → x.block < B := fun d hd h0 x e => by rw [hB]; exact (hok d hd).src.lt h0 x e
  have HY := Lib.hid (joinC_byts hok)
  have HD := Lib.hid hdlt
  have HB := Lib.hid hB
  have HL := Lib.hid hl
  have HS := Lib.hid hs
  have HK := Lib.hid hok
  have HWL := Lib.hid hwl
  have HWS := Lib.hid hws
  have HWB := Lib.hid hwb
  rw [← hB]
  clear hB hl hs hok hwl hws hwb hdlt
  go_enter Try.func4, Try.ntmps4
  go_wp2_with fail
  refine hG.out.mono ?_
  rintro e w1 ⟨⟨b, rfl, hgr⟩, rfl⟩
  cases b with
  | true =>
    go_wp2_with fail
    refine (wakes_call w).mono ?_
    rintro e w1 ⟨rfl, hb⟩
    go_wp2
    go_ret
    exact ⟨rfl, HB.out ▸ hb⟩
  | false =>
    obtain ⟨h80, h3000⟩ := hgr rfl
    rw [HL.out] at h80
    clear hgr
    by_cases hm : 300 < m
    · have d1 : decide ((300 : Int) < (m : Int)) = true := by simp; omega
      go_wp2_with fail
      refine (wakes_call w).mono ?_
      rintro e w1 ⟨rfl, hb⟩
      go_wp2
      go_ret
      exact ⟨rfl, HB.out ▸ hb⟩
    · have d1 : decide ((300 : Int) < (m : Int)) = false := by simp; omega
      go_wp2_with fail
      refine (join_call w sp n cc C HL.out HS.out HK.out hn h3000).mono ?_
      rintro e w1 ⟨aJ, cJ, rfl, hJ, hJB, hb⟩
      rw [← HB.out] at hJB hb
      have hcJ := hJ.cap
      have HJ := Lib.hid hJ
      have HJB := Lib.hid hJB
      have b1 := Lib.hid hb
      have hsz1 := hb.size
      rw [← HB.out] at hsz1
      obtain ⟨N, hN⟩ : ∃ N, N = (joinC C).length := ⟨_, rfl⟩
      rw [← hN] at h3000 hcJ ⊢
      obtain ⟨hcJ1, hcJ2⟩ := hcJ
      have HN := Lib.hid hN
      clear hJ hJB hb hN
      by_cases h300 : 300 < N
      · have d2 : decide ((300 : Int) < (N : Int)) = true := by simp; omega
        go_wp2_with fail
        refine (wakes_call w1).mono ?_
        rintro e w2 ⟨rfl, hb⟩
        go_wp2
        go_ret
        exact ⟨rfl, b1.out.trans (hb.mono hsz1)⟩
      · have d2 : decide ((300 : Int) < (N : Int)) = false := by simp; omega
        go_wp2_with fail
        refine (newB B w1 hsz1).mono ?_
        rintro e w2 ⟨rfl, hr1, hb⟩
        have hJ2 := HJ.out.below hb
        have b2 := b1.out.trans (hb.mono hsz1)
        obtain ⟨p1, hp1⟩ : ∃ p, p = w1.heap.size := ⟨_, rfl⟩
        rw [← hp1] at hr1 ⊢
        have hJ1 : ∀ g, blk aJ = some g → g < p1 := fun g e => by rw [hp1]; exact HJ.out.lt e
        have hp1B : B ≤ p1 := by omega
        have HR1 := Lib.hid hr1
        have HJ2 := Lib.hid hJ2
        have HJ1 := Lib.hid hJ1
        have B2 := Lib.hid b2
        clear hr1 hJ2 b2 hb hJ1 hp1 HJ b1
        go_wp2_with fail
        refine (newB B w2 HR1.out.sz).mono ?_
        rintro e w3 ⟨rfl, hr2, hb⟩
        obtain ⟨p2, hp2⟩ : ∃ p, p = w2.heap.size := ⟨_, rfl⟩
        rw [← hp2] at hr2 ⊢
        have h12 : p1 < p2 := by rw [hp2]; exact HR1.out.rd.plt
        have hT : Two B w3 p1 none [] 0 p2 none [] 0 aJ cJ (joinC C) :=
          Two.fresh (HR1.out.below hb) hr2 (HJ2.out.below hb) h12 (fun g e => HJ1.out g e)
        have HT := Lib.hid hT
        have B3 := Lib.hid (B2.out.trans (hb.mono HR1.out.sz))
        clear hr2 hb hp2 hT HR1 HJ2 B2
        go_wp2_with fail
        refine (HT.out.feed1 N HN.out.symm 28 HY.out (by have := HN.out; omega)).mono ?_
        rintro e w4 ⟨rfl, a14, hT4, hb⟩
        have HT4 := Lib.hid (show AllS B p1 p2 w C aJ cJ 0 0 w4 from ⟨a14, none, by simpa [joinC] using hT4, B3.out.trans hb⟩)
        clear hT4 hb HT B3 HJ1
        go_wp2_with fail
        go_loopw [8, 9, 10] (fun x8 x9 i wr => ∃ j nx at_ : Nat, j ≤ m ∧ i = .int .i64 j ∧ nx ≤ n ∧ x8 = .int .i64 nx ∧ at_ ≤ 8 * N ∧ x9 = .int .i64 at_ ∧ AllS B p1 p2 w C aJ cJ at_ nx wr) (fun _ _ i _ => m - (intOf i).toNat)
        case atStart => exact ⟨0, 0, 0, Nat.zero_le _, rfl, Nat.zero_le _, rfl, Nat.zero_le _, rfl, HT4.out⟩
        case round =>
          obtain ⟨j, nx, at_, hj, rfl, hnx, rfl, hat, rfl, hA⟩ := hrel
          have HA := Lib.hid hA
          clear hA HT4
          by_cases hlt : j < m
          · have hjl : j < W.length := by rw [HWL.out]; exact hlt
            have hbA : Below B w wr := by obtain ⟨_, _, _, h⟩ := HA.out; exact h
            have hws := HWS.out.below (HB.out ▸ hbA)
            rcases hws with hnil | ⟨gw, ow, rfl, hcw⟩
            · rw [hnil] at hjl
              simp at hjl
            have hcj := hcw j hjl
            rw [getD_in _ _ hjl] at hcj
            have hwb := HWB.out _ (List.getElem_mem hjl)
            obtain ⟨wv, hwv⟩ : ∃ x, x = W[j] := ⟨_, rfl⟩
            rw [← hwv] at hcj hwb
            obtain ⟨mx, hmx⟩ : ∃ mx : Int, (if wv < 0 then 0 else wv) = mx := ⟨_, rfl⟩
            obtain ⟨q, hq⟩ : ∃ q : Nat, (if 32 < mx then 32 else mx) = (q : Int) := ⟨(if 32 < mx then 32 else mx : Int).toNat, by omega⟩
            have hq32 : q ≤ 32 := by omega
            clear hwv hcw hwb hbA hjl
            go_upto_block 2 with fail
            clear hq hmx
            go_cut [8] (fun s8 wx => ∃ ny : Nat, ny ≤ n ∧ s8 = .int .i64 ny ∧ (ny = n ∨ at_ + q ≤ 8 * (joinC (C.take ny)).length) ∧ AllS B p1 p2 w C aJ cJ at_ ny wx)
            case first =>
              go_wp2_with fail
              go_loopw [8] (fun x8 wy => ∃ ny : Nat, ny ≤ n ∧ x8 = .int .i64 ny ∧ AllS B p1 p2 w C aJ cJ at_ ny wy) (fun x8 _ => n - (intOf x8).toNat)
              case atStart => exact ⟨nx, hnx, rfl, HA.out⟩
              case round =>
                obtain ⟨ny, hny, rfl, hA⟩ := hrel
                obtain ⟨a1, a2, hT, hbT⟩ := hA
                have HTT := Lib.hid hT
                have HBT := Lib.hid hbT
                clear hT hbT HA
                by_cases hltn : ny < n
                · obtain ⟨L, hL⟩ : ∃ L, at_ + L = 8 * (joinC (C.take ny)).length := ⟨8 * (joinC (C.take ny)).length - at_, by obtain ⟨c2, r2⟩ := HTT.out.r2; have := r2.le; omega⟩
                  have HLL := Lib.hid hL
                  have HLEFT := Lib.hid (HTT.out.left2 L hL)
                  clear hL
                  by_cases hLq : L < q
                  · obtain ⟨d, hd⟩ : ∃ d, C[ny]? = some d := ⟨C[ny]'(by rw [HL.out]; exact hltn), List.getElem?_eq_getElem _⟩
                    have hdm := List.mem_of_getElem? hd
                    have HJS := Lib.hid (joinC_succ C ny d hd)
                    have hjl := joinC_le C (ny + 1)
                    rw [HJS.out, List.length_append, ← HN.out] at hjl
                    have HDD := Lib.hid hd
                    clear hd
                    go_wp2_with fail
                    refine HLEFT.out.mono ?_
                    rintro e w5 ⟨rfl, hT5, hb5⟩
                    have b5 := HBT.out.trans hb5
                    have hcs := HS.out.below (HB.out ▸ b5)
                    have hok5 := Lib.hid ((HK.out d hdm).below (HB.out ▸ b5))
                    rcases hcs with hnil | ⟨gc, oc, rfl, hcc⟩
                    · have := HDD.out
                      rw [hnil] at this
                      simp at this
                    have hcd := hcc ny d HDD.out
                    have HT5 := Lib.hid hT5
                    have B5 := Lib.hid b5
                    clear hT5 hb5 b5 hcc HTT HBT HLEFT
                    go_wp2_with fail
                    refine (HT5.out.feed2 d 28 hok5.out (HD.out d hdm) (by omega) _ HJS.out.symm).mono ?_
                    rintro e w6 ⟨rfl, a26, hT6, hb6⟩
                    have HA6 := Lib.hid (show AllS B p1 p2 w C aJ cJ at_ (ny + 1) w6 from ⟨a1, a26, hT6, B5.out.trans hb6⟩)
                    clear hT6 hb6 HT5 B5
                    go_wp2_with fail
                    go_roundw
                    case rel => exact ⟨ny + 1, by omega, by go_num, HA6.out⟩
                    case measure => simp [intOf]; omega
                  · go_wp2_with fail
                    refine HLEFT.out.mono ?_
                    rintro e w5 ⟨rfl, hT5, hb5⟩
                    have HA5 := Lib.hid (show AllS B p1 p2 w C aJ cJ at_ ny w5 from ⟨a1, a2, hT5, HBT.out.trans hb5⟩)
                    clear hT5 hb5 HTT HBT HLEFT
                    go_wp2_with fail
                    all_goals go_meet
                    all_goals exact ⟨ny, hny, rfl, .inr (by have := HLL.out; omega), HA5.out⟩
                · obtain rfl : ny = n := by omega
                  have HA5 := Lib.hid (show AllS B p1 p2 w C aJ cJ at_ ny _ from ⟨a1, a2, HTT.out, HBT.out⟩)
                  clear HTT HBT
                  go_wp2_with fail
                  all_goals go_meet
                  all_goals exact ⟨ny, hny, rfl, .inl rfl, HA5.out⟩
            case rest =>
              obtain ⟨ny, hny, rfl, hE, a1, a2, hT, hbT⟩ := hcut
              have hFN : ny = n → joinC (C.take ny) = joinC C := fun e => by rw [List.take_of_length_le (by rw [HL.out]; omega)]
              have hpre := joinC_pre C ny
              have hFle := joinC_le C ny
              obtain ⟨F, hF⟩ : ∃ F, F = joinC (C.take ny) := ⟨_, rfl⟩
              rw [← hF] at hFN hpre hFle hE hT
              rw [← HN.out] at hFle
              have hE2 : at_ + q ≤ 8 * N ↔ at_ + q ≤ 8 * F.length := by
                rcases hE with h1 | h1
                · rw [hFN h1, ← HN.out]
                · constructor <;> intro h2 <;> omega
              have HTT := Lib.hid hT
              have HBT := Lib.hid hbT
              have HFE := Lib.hid hF
              have HPRE := Lib.hid hpre
              have HNN := Lib.hid (show (joinC C).length = N from HN.out.symm)
              clear hT hbT hF hpre hFN hE HA
              by_cases hok : at_ + q ≤ 8 * N
              · have hok2 := hE2.1 hok
                obtain ⟨V, hV⟩ : ∃ V, V = valV (((bitsB (joinC C)).drop at_).take q) := ⟨_, rfl⟩
                have hV2 : valV (((bitsB F).drop at_).take q) = V := by
                  rw [hV, HPRE.out, mid_prefix _ _ _ _ hok2]
                have hlq := mid_length (bitsB (joinC C)) at_ q (by rw [bitsB_length, HNN.out]; exact hok)
                have hVb := valV_bd _ ((bitsB_bin (joinC C)).mid at_ q)
                rw [← hV, hlq] at hVb
                have hp32 : 2 ^ q ≤ 2 ^ 32 := Nat.pow_le_pow_right (by omega) hq32
                obtain ⟨hV0, hV1⟩ := hVb
                have hVm : V ≤ 4294967295 := by omega
                have HV := Lib.hid hV
                have HV2 := Lib.hid hV2
                have HLQ := Lib.hid hlq
                have dok : decide ((at_ : Int) + (q : Int) ≤ 8 * (N : Int)) = true := by simp; omega
                clear hV hV2 hlq hp32 hV1
                go_wp2_with fail
                refine (HTT.out.take1 q hq32 (by rw [HNN.out]; exact hok) V HV.out.symm).mono ?_
                rintro e w5 ⟨rfl, a15, hT5, hb5⟩
                have HT5 := Lib.hid hT5
                have B5 := Lib.hid (HBT.out.trans hb5)
                clear hT5 hb5 HTT HBT
                go_wp2_with fail
                refine (HT5.out.take2 q hq32 hok2 V HV2.out).mono ?_
                rintro e w6 ⟨rfl, a26, hT6, hb6⟩
                have HT6 := Lib.hid hT6
                have B6 := Lib.hid (B5.out.trans hb6)
                clear hT6 hb6 HT5 B5
                go_wp2_with fail
                have hS6 := Lib.hid HT6.out.rj.src
                go_loopw [16] (fun x16 wx => ∃ k : Nat, k ≤ q ∧ x16 = .int .i64 k ∧ wx = w6) (fun x16 _ => q - (intOf x16).toNat)
                case atStart => exact ⟨0, Nat.zero_le _, rfl, rfl⟩
                case round =>
                  obtain ⟨k, hk, rfl, rfl⟩ := hrel
                  by_cases hlt2 : k < q
                  · have hbit := valV_getD _ ((bitsB_bin (joinC C)).mid at_ q) k q HLQ.out hlt2
                    rw [getD_mid _ _ _ _ hlt2, ← HV.out] at hbit
                    have dB := bit_differs V (q - 1 - k) _ hV0 hVm hbit
                    simp only [List.getD_eq_getElem?_getD] at dB
                    have hbc := bit_call wr aJ N cJ (joinC C) HNN.out hS6.out HY.out (at_ + k) (by omega) (by omega)
                    rw [Int.natCast_add] at hbc
                    have HC := Lib.hid hbc
                    clear hbit hbc
                    go_wp2_with fail
                    refine HC.out.mono ?_
                    rintro e w7 ⟨rfl, rfl⟩
                    go_wp2_with fail
                    exact ⟨⟨k + 1, by omega, by go_num, trivial⟩, by simp [intOf]; omega⟩
                  · obtain rfl : k = q := by omega
                    obtain ⟨L, hL⟩ : ∃ L, at_ + k + L = 8 * N := ⟨8 * N - (at_ + k), by omega⟩
                    have dL : ((L : Int) != 8 * (N : Int) - ((at_ : Int) + (k : Int))) = false := by simp; omega
                    have dL2 : ((L : Int) != 8 * (N : Int) - (at_ : Int) - (k : Int)) = false := by simp; omega
                    have HLL := Lib.hid hL
                    clear hL
                    go_wp2_with fail
                    refine HT6.out.used1.mono ?_
                    rintro e w7 ⟨rfl, rfl⟩
                    go_wp2_with fail
                    refine HT6.out.used2.mono ?_
                    rintro e w7 ⟨rfl, rfl⟩
                    go_wp2_with fail
                    refine (HT6.out.left1 L (by rw [HNN.out]; exact HLL.out)).mono ?_
                    rintro e w7 ⟨rfl, hT7, hb7⟩
                    have HA7 := Lib.hid (show AllS B p1 p2 w C aJ cJ (at_ + k) ny w7 from ⟨a15, a26, by rw [← HFE.out]; exact hT7, B6.out.trans hb7⟩)
                    clear hT7 hb7 HT6 B6
                    go_wp2_with fail
                    exact ⟨⟨j + 1, ny, at_ + k, by omega, by go_num, hny, rfl, hok, by go_num, HA7.out⟩, by simp [intOf]; omega⟩
              · have hok2 : ¬ at_ + q ≤ 8 * F.length := fun h => hok (hE2.2 h)
                have dok : decide ((at_ : Int) + (q : Int) ≤ 8 * (N : Int)) = false := by simp; omega
                go_wp2_with fail
                refine (HTT.out.take1no q (by rw [HNN.out]; exact hok)).mono ?_
                rintro e w5 ⟨rfl, hT5, hb5⟩
                have HT5 := Lib.hid hT5
                have B5 := Lib.hid (HBT.out.trans hb5)
                clear hT5 hb5 HTT HBT
                go_wp2_with fail
                refine (HT5.out.take2no q hok2).mono ?_
                rintro e w6 ⟨rfl, hT6, hb6⟩
                have hA6 : AllS B p1 p2 w C aJ cJ at_ ny w6 := ⟨a1, a2, by rw [← HFE.out]; exact hT6, B5.out.trans hb6⟩
                have HA6 := Lib.hid hA6
                clear hT6 hb6 HT5 B5 hA6
                go_wp2_with fail
                exact ⟨⟨j + 1, ny, at_, by omega, by go_num, hny, rfl, hat, rfl, HA6.out⟩, by simp [intOf]; omega⟩
          · obtain rfl : j = m := by omega
            obtain ⟨_, _, hT5, b5⟩ := HA.out
            have hsz := hT5.sz
            have B5 := Lib.hid b5
            clear hT5 b5
            go_wp2_with fail
            refine (wakes_call wr).mono ?_
            rintro e w6 ⟨rfl, hb⟩
            go_wp2
            go_ret
            exact ⟨rfl, B5.out.trans (hb.mono hsz)⟩

theorem aalaw_shell (sp : Option Addr) (n cc : Nat) (C : List Chk) (sw : Option Addr) (m cw : Nat) (z : List Int) (w : World) (hl : C.length = n) (hs : CSrc w sp C) (hok : ∀ d ∈ C, OkC w d) (hc : n ≤ cc) (hcm : cc ≤ maxLen) (h1 : IsRow .i64 w sw m cw z) :
    Calls Try.prog 4 #[.slice sp n cc, .slice sw m cw] w fun e w' => e = .returned (.bool true) ∧ Below w.heap.size w w' := by
  obtain ⟨e1, e2, e3, e4, _⟩ := h1.src
  exact aalaw_call sp n cc C sw m cw (z.take m) w hl hs hok (by unfold maxLen at hcm; omega) e1 e2 (fun x hx => bounds_i64 (e3 x hx)) e4
end Go.Proofs.Ytjbbbojbjholfaa
