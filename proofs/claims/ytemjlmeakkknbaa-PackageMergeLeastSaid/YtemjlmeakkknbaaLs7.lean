/- Law PackageMergeLeast. -/
import Derived.Test.YtemjlmeakkknbaaWk7
import Derived.Test.YtemjlmeakkknbaaFw
set_option linter.unusedVariables false
set_option linter.unusedSimpArgs false
namespace Go.Proofs.Ytemjlmeakkknbaa
open Go.RowKit

theorem pw_bd {k : Nat} (h1 : 1 ≤ k) (h5 : k ≤ 5) (i : Nat) (hi : i ≤ 5) : 1 ≤ k ^ i ∧ k ^ i ≤ 3125 := by
  refine ⟨Nat.pow_pos (by omega), ?_⟩
  have a : k ^ i ≤ 5 ^ i := Nat.pow_le_pow_left h5 i
  have b : 5 ^ i ≤ 5 ^ 5 := Nat.pow_le_pow_right (by omega) hi
  omega
theorem least_lok {q T : List Int} {m : Int} (hT : Tal T) (h : FewOk q T m) {k : Nat} (h1 : 1 ≤ k) (h5 : k ≤ 5) (hm : m ≤ ((2 ^ k : Nat) : Int)) : LOk T k ∧ ((lvT T).length : Int) = m := by
  obtain ⟨mm, g1, g2, g3, g4⟩ := h
  have hc := g2.cnt g1
  refine ⟨⟨vt_get hT (g2.bd g3), by omega, by omega, ?_⟩, by rw [hc, g4]⟩
  rw [Int.toNat_natCast]
  omega

set_option maxRecDepth 100000 in
set_option maxHeartbeats 8000000 in
theorem least_law (sp : Option Addr) (n c : Nat) (q : List Int) (L : Int) (hl : q.length = n) (hn63 : n ≤ 9223372036854775807) (hL : -9223372036854775808 ≤ L ∧ L ≤ 9223372036854775807) (w : World) (hs : Src w .i64 sp q) (hwf : ∀ z ∈ q, (Lit.int .i64 z).wf = true) :
    Calls Try.prog 4 #[.slice sp n c, .int .i64 L] w fun e w' => e = .returned (.bool true) ∧ Below w.heap.size w w' := by
  have hzT := talZ
  have hzL := lngZ
  have hwk := wakes_call
  have hfc := few_call sp n c q hl hn63 w hs hwf
  clear hs hwf hl
  go_enter Try.func4, Try.ntmps4
  go_upto_region 1 with fail
  go_wp2_with fail
  refine hfc.mono ?_
  rintro e x1 ⟨T, m, ok, rfl, hT, hfew, hb⟩
  have HB1 := Lib.hid hb
  have HFEW := Lib.hid hfew
  clear hb hfew hfc
  go_upto_region 2 with (refine wpList_store_row rfl 23 _ _ rfl x1.heap.size (tl T) rfl rfl 23 (tl zT) (heap_alloc_last x1 _) (talIk hT) (by rw [tl_size zT_tal, tl_size hT]) (tl_all _) ?_)
  rw [World.setRow_alloc_new]
  have hg := heap_alloc_last x1 (.cells (tl T) 23)
  have hbq := below_al x1 (.cells (tl T) 23)
  generalize x1.alloc (.cells (tl T) 23) = y1 at hg hbq ⊢
  have HB := Lib.hid (HB1.out.trans (hbq.mono HB1.out.size))
  clear hbq HB1
  try dsimp only [Act.put]
  cases ok with
  | false =>
    clear HFEW
    go_wp2_with (with_reducible refine (hwk _).mono ?_; rintro e x6 ⟨rfl, hb6⟩)
    go_ret
    exact ⟨rfl, HB.out.trans (hb6.mono HB.out.size)⟩
  | true =>
    have HF := Lib.hid (HFEW.out rfl)
    clear HFEW
    by_cases hL1 : L < 1
    · go_wp2_with (with_reducible refine (hwk _).mono ?_; rintro e x6 ⟨rfl, hb6⟩)
      go_ret
      exact ⟨rfl, HB.out.trans (hb6.mono HB.out.size)⟩
    by_cases hL5 : 5 < L
    · go_wp2_with (with_reducible refine (hwk _).mono ?_; rintro e x6 ⟨rfl, hb6⟩)
      go_ret
      exact ⟨rfl, HB.out.trans (hb6.mono HB.out.size)⟩
    obtain ⟨k, rfl⟩ : ∃ k : Nat, L = k := ⟨L.toNat, by omega⟩
    have hk1 : 1 ≤ k := by omega
    have hk5 : k ≤ 5 := by omega
    have hpw : 2 ^ k ≤ 2 ^ 5 := Nat.pow_le_pow_right (by omega) hk5
    have hpw2 : (((2 ^ k : Nat)) : Int) = (2 : Int) ^ k := by simp
    have hpw0 : (0 : Int) ≤ (2 : Int) ^ k := Int.pow_nonneg (by omega)
    obtain ⟨P, hP⟩ : ∃ P : Int, P = (2 : Int) ^ k := ⟨_, rfl⟩
    have hP32 : P ≤ 32 := by rw [hP, ← hpw2]; omega
    have hwp : wrap64 ((2 : Int) ^ k) = P := by rw [← hP]; unfold wrap64; omega
    have HP := Lib.hid (show P = ((2 ^ k : Nat) : Int) by rw [hP, hpw2])
    have huk : IntKind.u64.wrap (k : Int) = (k : Int) := by unfold IntKind.wrap; simp [IntKind.bits, IntKind.signed]; omega
    have hm5 : 0 ≤ m ∧ m ≤ 5 := by
      obtain ⟨mm, g1, _, _, g4⟩ := HF.out
      have := cntF_bd q mm
      omega
    clear hpw hpw2 hP hpw0
    by_cases hmP : P < m
    · go_wp2_with (with_reducible refine (hwk _).mono ?_; rintro e x6 ⟨rfl, hb6⟩)
      go_ret
      exact ⟨rfl, HB.out.trans (hb6.mono HB.out.size)⟩
    by_cases hm2 : m < 2
    · go_wp2_with (with_reducible refine (hwk _).mono ?_; rintro e x6 ⟨rfl, hb6⟩)
      go_ret
      exact ⟨rfl, HB.out.trans (hb6.mono HB.out.size)⟩
    obtain ⟨hlk, hlen⟩ := least_lok hT HF.out hk1 hk5 (by rw [← HP.out]; omega)
    have hkT := fun w => lengths_call T hT k (by omega) w
    rw [lenE_ok hlk] at hkT
    have hlQ := lenQ_lng hT k
    have hsc := fun w => sum_call (lenQ T k) hlQ (lenQ_le hT k) w
    rw [whole_sum2 hT hlk (by omega)] at hsc
    have HPOS := Lib.hid (fun s hs => len_pos_iff hT hlk (s := s) hs)
    have HTOT : RowKit.Hid (totV T (lenQ T k) = totR T (lenQ T k) 258) := Lib.hid (if_pos hlk.1)
    have HV := Lib.hid hlk.1
    have HLO := Lib.hid (fun (f : Nat → Nat) (hf : ∀ i, 1 ≤ f i ∧ f i ≤ k) (h5 : kfS T k f 5 ≤ ((2 ^ k : Nat) : Int)) => show totV T (lenQ T k) ≤ otS T f 5 from by
      obtain ⟨mm, g1, g2, g3, g4⟩ := HF.out
      exact least_ok g2 g1 hT hlk f hf h5)
    clear hlk hlen HF
    generalize lenQ T k = Q at hkT hlQ hsc HPOS HTOT HLO
    go_upto_region 5 with (first
      | (refine wpList_load_row rfl 23 _ rfl x1.heap.size rfl 23 (tl T) (0, 0) _ hg Try.underlying23 rfl (talIk hT) ?_)
      | (with_reducible refine (hkT _).mono ?_
         rintro e x2 ⟨rfl, hb⟩
         replace HB := Lib.hid (HB.out.trans (hb.mono HB.out.size))
         replace hg := heap_on hb hg
         clear hb hkT)
      | (refine wpList_store_row rfl 25 _ _ rfl x2.heap.size (lg Q) rfl rfl 25 (lg zL) (heap_alloc_last x2 _) (lngIk hlQ) (by rw [lg_size zL_lng, lg_size hlQ]) (lg_all _) ?_))
    rw [World.setRow_alloc_new]
    have hbq := below_al x2 (.cells (lg Q) 25)
    have hl1 := heap_alloc_last x2 (.cells (lg Q) 25)
    replace HB := Lib.hid (HB.out.trans (hbq.mono HB.out.size))
    replace hg := heap_on hbq hg
    generalize x2.alloc (.cells (lg Q) 25) = y2 at hbq hl1 HB hg ⊢
    clear hbq
    try dsimp only [Act.put]
    go_wp2_with (first
      | (refine wpList_load_row_g 2 false rfl 56 rfl _ rfl rfl 25 _ rfl x2.heap.size rfl 25 (lg Q) (0, 0) _ hl1 Try.underlying25 rfl (lngIk hlQ) ?_)
      | (with_reducible refine (hsc _).mono ?_
         rintro e x3 ⟨rfl, hb⟩
         replace HB := Lib.hid (HB.out.trans (hb.mono HB.out.size))
         replace hg := heap_on hb hg
         replace hl1 := heap_on hb hl1
         clear hb hsc))
    have HG := Lib.hid hg
    have HL1 := Lib.hid hl1
    clear hg hl1
    go_loopw [10, 11] (fun s10 s11 wx => ∃ s : Nat, s ≤ 258 ∧ s11 = .int .i64 s ∧ s10 = .int .i64 (totR T Q s) ∧ wx.heap[x1.heap.size]? = some (.cells (tl T) 23 (0, 0)) ∧ wx.heap[x2.heap.size]? = some (.cells (lg Q) 25 (0, 0)) ∧ Below w.heap.size w wx) (fun _ s11 _ => 258 - (intOf s11).toNat)
    case atStart => exact ⟨0, by omega, rfl, rfl, HG.out, HL1.out, HB.out⟩
    case round =>
      clear HG HL1 HB
      obtain ⟨s, hs, rfl, rfl, hg, hl1, hb⟩ := hrel
      have HB := Lib.hid hb
      clear hb
      by_cases hlt : s < 258
      · have hts := tl_cell hg hT s hlt
        have hls := lg_cell hl1 hlQ s hlt
        have hsI : (s : Int) < 258 := by omega
        have hbQ := hlQ.bd s
        have hbT := HV.out.get s
        obtain ⟨p1, p2⟩ := HPOS.out s hlt
        have hone := tot_one HV.out hlQ s
        have hbR := totR_bd HV.out hlQ s
        have HST := Lib.hid (totR_succ T Q s)
        generalize T.getD s 0 = V at hts hbT p2 hone HST
        generalize Q.getD s 0 = M at hls hbQ p1 p2 hone HST
        generalize totR T Q s = R at hbR HST ⊢
        obtain ⟨W, hW⟩ : ∃ W, W = V * M := ⟨_, rfl⟩
        rw [← hW] at hone HST
        have hwm : IntKind.i64.wrap (V * M) = W := by rw [← hW, IntKind.wrap_i64]; omega
        have hwa : IntKind.i64.wrap (R + W) = R + W := by rw [IntKind.wrap_i64]; omega
        clear hW
        have d1 : decide ((k : Int) < M) = false := decide_eq_false (by omega)
        have d2 : decide (0 < M) = decide (0 < V) := by rw [decide_eq_decide]; exact p2
        go_upto_region 11 with fail
        go_quiet (fail)
        go_upto_region 13 with fail
        go_quiet (fail)
        go_wp2_with fail
        exact ⟨⟨s + 1, by omega, by go_num, by rw [HST.out], hg, hl1, HB.out.drewN _⟩, by simp [intOf]; omega⟩
      · obtain rfl : s = 258 := by omega
        have HTT := Lib.hid HTOT.out.symm
        generalize totR T Q 258 = TT at HTT ⊢
        generalize totV T Q = TV at HTT HLO
        obtain rfl : TT = TV := HTT.out
        clear HTT HTOT HPOS
        have HBR := Lib.hid HB.out
        clear hlQ hl1 HB
        go_wp2_with fail
        go_loopw [12, 13] (fun s12 s13 wx => ∃ i : Nat, i ≤ 5 ∧ s13 = .int .i64 i ∧ s12 = .int .i64 ((k ^ i : Nat) : Int) ∧ wx = wr) (fun _ s13 _ => 5 - (intOf s13).toNat)
        case atStart => exact ⟨0, by omega, rfl, rfl, rfl⟩
        case round =>
          obtain ⟨i, hi, rfl, rfl, rfl⟩ := hrel
          have hpb := pw_bd hk1 hk5 i hi
          by_cases hi5 : i < 5
          · have hpb2 := pw_bd hk1 hk5 (i + 1) (by omega)
            have hps : ((k ^ i : Nat) : Int) * (k : Int) = ((k ^ (i + 1) : Nat) : Int) := by rw [← Int.natCast_mul, Nat.pow_succ]
            have HPS := Lib.hid hps
            generalize k ^ i = A at hpb hps ⊢
            obtain ⟨B, hB⟩ : ∃ B, B = k ^ (i + 1) := ⟨_, rfl⟩
            rw [← hB] at hpb2 hps
            have HBB := Lib.hid hB
            have hwm : IntKind.i64.wrap ((A : Int) * (k : Int)) = (B : Int) := by rw [hps, IntKind.wrap_i64]; omega
            clear hB hps HPS
            go_wp2_with fail
            exact ⟨⟨i + 1, by omega, by go_num, by rw [← HBB.out], by trivial⟩, by simp [intOf]; omega⟩
          · obtain rfl : i = 5 := by omega
            obtain ⟨ALL, hALL⟩ : ∃ A, A = k ^ 5 := ⟨_, rfl⟩
            rw [← hALL] at hpb ⊢
            clear hALL
            go_wp2_with fail
            go_loopw [14] (fun s14 wx => ∃ x : Nat, x ≤ ALL ∧ s14 = .int .i64 x ∧ wx = wr) (fun s14 _ => ALL - (intOf s14).toNat)
            case atStart => exact ⟨0, by omega, rfl, rfl⟩
            case round =>
              obtain ⟨x, hx, rfl, rfl⟩ := hrel
              by_cases hxa : x < ALL
              · go_wp2_with fail
                obtain ⟨f, hf⟩ : ∃ f : Nat → Nat, f = fun i => 1 + x / k ^ i % k := ⟨_, rfl⟩
                have hff : ∀ i, 1 ≤ f i ∧ f i ≤ k := fun i => by
                  rw [hf]
                  have := Nat.mod_lt (x / k ^ i) (show 0 < k by omega)
                  show 1 ≤ 1 + x / k ^ i % k ∧ 1 + x / k ^ i % k ≤ k
                  omega
                have HFI : RowKit.Hid (∀ i, f i = 1 + x / k ^ i % k) := Lib.hid (fun i => by rw [hf])
                have HFF := Lib.hid hff
                clear hf hff
                go_loopw [15, 16, 17, 18] (fun s15 s16 s17 s18 wx => ∃ i : Nat, i ≤ 5 ∧ s18 = .int .i64 i ∧ s15 = .int .i64 ((x / k ^ i : Nat) : Int) ∧ s16 = .int .i64 (kfS T k f i) ∧ s17 = .int .i64 (otS T f i) ∧ wx = wr) (fun _ _ _ s18 _ => 5 - (intOf s18).toNat)
                case atStart => exact ⟨0, by omega, rfl, by simp, rfl, rfl, rfl⟩
                case round =>
                  obtain ⟨i, hi, rfl, rfl, rfl, rfl, rfl⟩ := hrel
                  have hkb := kfS_bd T hk5 f i
                  have hob := otS_bd HV.out (f := f) (fun i => by have := HFF.out i; omega) i
                  by_cases hi5 : i < 5
                  · have hts := tl_cell hg hT (51 * i) (by omega)
                    have hbT := HV.out.get (51 * i)
                    have hfi := HFI.out i
                    have hfl := HFF.out i
                    have hone := otS_one HV.out (a := f i) (by omega) i
                    have HKS := Lib.hid (kfS_succ T k f i)
                    have HOS := Lib.hid (otS_succ T f i)
                    have hdd : x / k ^ (i + 1) = x / k ^ i / k := by rw [Nat.pow_succ, Nat.div_div_eq_div_mul]
                    have HDD := Lib.hid hdd
                    have hYb : x / k ^ i ≤ x := Nat.div_le_self _ _
                    generalize x / k ^ i = Y at hfi HDD hYb ⊢
                    generalize f i = FI at hfi hfl hone HKS HOS
                    generalize T.getD (51 * i) 0 = V at hts hbT hone HKS HOS
                    generalize kfS T k f i = KS at hkb HKS ⊢
                    generalize otS T f i = OS at hob HOS ⊢
                    have hkI : ¬ (k : Int) = 0 := by omega
                    have h51 : IntKind.i64.wrap (51 * (i : Int)) = 51 * (i : Int) := by rw [IntKind.wrap_i64]; omega
                    have h51n : (51 * (i : Int)).toNat = 51 * i := by omega
                    have h51l : 51 * (i : Int) < 258 := by omega
                    have h51g : (0 : Int) ≤ 51 * (i : Int) := by omega
                    clear hdd
                    have hfI : ((FI : Nat) : Int) = 1 + (Y : Int) % (k : Int) := by rw [hfi]; simp
                    have hY3 : Y ≤ 3125 := by omega
                    have HY : RowKit.Hid (wrap64 ((Y : Int) / (k : Int)) = ((Y / k : Nat) : Int)) := Lib.hid (by
                      have h1 : Y / k ≤ Y := Nat.div_le_self _ _
                      rw [← Int.natCast_ediv]
                      generalize Y / k = D at h1 ⊢
                      unfold wrap64
                      omega)
                    have hp5 : 2 ^ (k - FI) ≤ 2 ^ 5 := Nat.pow_le_pow_right (by omega) (by omega)
                    have HK2 : RowKit.Hid (wrap64 (KS + wrap64 ((2 : Int) ^ (k - (1 + Y % k)))) = KS + ((2 ^ (k - FI) : Nat) : Int)) := Lib.hid (by
                      rw [← hfi]
                      have e : ((2 : Int) ^ (k - FI)) = ((2 ^ (k - FI) : Nat) : Int) := by simp
                      rw [e]
                      generalize 2 ^ (k - FI) = y at hp5 ⊢
                      unfold wrap64
                      omega)
                    have HO2 : RowKit.Hid (wrap64 (OS + wrap64 ((1 + (Y : Int) % (k : Int)) * V)) = OS + (FI : Int) * V) := Lib.hid (by
                      rw [← hfI]
                      generalize (FI : Int) * V = y at hone ⊢
                      unfold wrap64
                      omega)
                    clear hfI hp5 hone
                    by_cases hV : 0 < V
                    · go_wp2_with fail
                      exact ⟨⟨i + 1, by omega, by go_num, by rw [HDD.out, HY.out], by rw [HKS.out, if_pos hV, HK2.out], by rw [HOS.out, if_pos hV, HO2.out], by trivial⟩, by simp [intOf]; omega⟩
                    · go_wp2_with fail
                      exact ⟨⟨i + 1, by omega, by go_num, by rw [HDD.out, HY.out], by rw [HKS.out, if_neg hV, Int.add_zero], by rw [HOS.out, if_neg hV, Int.add_zero], by trivial⟩, by simp [intOf]; omega⟩
                  · obtain rfl : i = 5 := by omega
                    have HLE := Lib.hid (fun h => HLO.out f HFF.out h)
                    rw [← HP.out] at HLE
                    generalize kfS T k f 5 = KS at hkb HLE ⊢
                    generalize otS T f 5 = OS at hob HLE ⊢
                    by_cases hKP : KS ≤ P
                    · have hle := HLE.out hKP
                      have hno : decide (OS < TT) = false := decide_eq_false (by omega)
                      go_wp2_with fail
                      go_roundw
                      case rel => exact ⟨x + 1, by omega, by go_num, by trivial⟩
                      case measure => simp [intOf]; omega
                    · go_wp2_with fail
                      go_roundw
                      case rel => exact ⟨x + 1, by omega, by go_num, by trivial⟩
                      case measure => simp [intOf]; omega
              · obtain rfl : x = ALL := by omega
                go_wp2_with (with_reducible refine (hwk _).mono ?_; rintro e x6 ⟨rfl, hb6⟩)
                go_ret
                exact ⟨rfl, HBR.out.trans (hb6.mono HBR.out.size)⟩
theorem least_of (sp : Option Addr) (n c : Nat) (zs : List Int) (L : Int) (w : World) (h : IsRow .i64 w sp n c zs) (hL : -9223372036854775808 ≤ L ∧ L ≤ 9223372036854775807) :
    Calls Try.prog 4 #[.slice sp n c, .int .i64 L] w fun e w' => e = .returned (.bool true) ∧ Below w.heap.size w w' := by
  obtain ⟨h1, h2, h3, h4, h5⟩ := h.src
  exact least_law sp n c (zs.take n) L h1 h4 hL w h2 h3
end Go.Proofs.Ytemjlmeakkknbaa
