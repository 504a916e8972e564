/- The reference's Bits, Size. -/
import Derived.Test.YtnpohkaicfcidaaPeG
set_option linter.unusedVariables false
set_option linter.unusedSimpArgs false
namespace Go.Proofs.Ytnpohkaicfcidaa
open Go.RowKit

/-- What Bits gives. -/
def spR (l q : List Int) : List Int := if canV l q then spV l q else []
theorem okS_nat (l : List Int) (s : Nat) : okS l (s : Int) = (decide (s < 258) && decide (0 < l.getD s 0)) := by
  unfold okS
  have e : decide ((s : Int) < 258) = decide (s < 258) := by rw [decide_eq_decide]; omega
  rw [decide_eq_true (show (0 : Int) ≤ (s : Int) by omega), Bool.true_and, Int.toNat_natCast, e]
theorem canV_out (l q : List Int) {i : Nat} (hi : i < q.length) (h : okS l (q.getD i 0) = false) : canV l q = false := by
  unfold canV
  have : q.all (okS l) = false := by
    rw [List.all_eq_false]
    refine ⟨q.getD i 0, ?_, by simpa using h⟩
    rw [List.getD_eq_getElem?_getD, List.getElem?_eq_getElem hi]
    exact List.getElem_mem hi
  rw [this, Bool.and_false]
theorem take_succD (q : List Int) (i : Nat) (hi : i < q.length) : q.take (i + 1) = q.take i ++ [q.getD i 0] := by
  rw [List.take_add_one, List.getElem?_eq_getElem hi, List.getD_eq_getElem?_getD, List.getElem?_eq_getElem hi]
  rfl
theorem spV_take (l q : List Int) (i : Nat) (hi : i < q.length) : spV l (q.take (i + 1)) = spV l (q.take i) ++ cbV l (q.getD i 0).toNat := by
  rw [take_succD q i hi, spV_app]
  congr 1
  show cbV l _ ++ [] = _
  rw [List.append_nil]
theorem all_take (l q : List Int) (i : Nat) (hi : i < q.length) (h : (q.take i).all (okS l) = true) (h2 : okS l (q.getD i 0) = true) : (q.take (i + 1)).all (okS l) = true := by
  rw [take_succD q i hi, List.all_append, h, List.all_cons, h2]
  rfl
theorem cbV_take (l : List Int) (s m : Nat) (hm : m < lnN l s) (C : Nat) (hC : cdL l s = (C : Int)) : (cbV l s).take (m + 1) = (cbV l s).take m ++ [(C : Int) / 2 ^ (lnN l s - 1 - m) % 2] := by
  rw [take_succD _ _ (by rw [cbV_len]; exact hm)]
  congr 1
  unfold cbV
  rw [bitsV_getD _ _ _ hm, hC]
  simp

theorem and1_u32 (x : Int) (h0 : 0 ≤ x) (h1 : x ≤ 4294967295) : bits .and .u32 x 1 = x % 2 := by
  obtain ⟨X, rfl⟩ := Int.eq_ofNat_of_zero_le h0
  have := u32_and_nat X 1 (by omega) (by omega)
  rw [nat_mask1] at this
  rw [show (1 : Int) = ((1 : Nat) : Int) by rfl, this]
  omega
theorem code_bit (C k : Nat) (hC : C < 32768) : wrap64 (bits BinOp.and IntKind.u32 ((C : Int) / 2 ^ k) 1) = (C : Int) / 2 ^ k % 2 := by
  have e : ((C : Int) / 2 ^ k) = ((C / 2 ^ k : Nat) : Int) := by simp
  have h := Nat.div_le_self C (2 ^ k)
  rw [e]
  generalize C / 2 ^ k = y at h ⊢
  rw [and1_u32 _ (by omega) (by omega)]
  unfold wrap64
  omega

set_option maxRecDepth 100000 in
set_option maxHeartbeats 4000000 in
theorem rbits_yes (l : List Int) (HV : VL l) (sp : Option Addr) (n cap : Nat) (q : List Int) (hq : q.length = n) (hn : n ≤ 10000) (w : World) (hs : Src w .i64 sp q) :
    Calls Try.prog 19 #[.agg (lg l), .slice sp n cap] w fun e w' => ∃ A c, e = .returned (.tuple #[.slice (ad0 A) (spR l q).length c, .bool (canV l q)]) ∧ NewO w w' A c (spR l q) := by
  have h := HV.lng
  have hz := cdsZ
  have HRC := Lib.hid (fun W => rcodes_yes l HV W)
  have hcd := codT_cds HV 258
  have HGET := Lib.hid (codT_get l)
  have hcs := cl_size hcd
  generalize codT l 258 = D at HRC hcd HGET hcs
  have HNO := Lib.hid (show canV l q = false → spR l q = [] from fun e => by unfold spR; rw [e]; rfl)
  have HYES := Lib.hid (show q.all (okS l) = true → spR l q = spV l q ∧ canV l q = true from fun e => by
    have : canV l q = true := by unfold canV; rw [e, decide_eq_true HV.sum]; rfl
    exact ⟨by unfold spR; rw [this]; rfl, this⟩)
  have HOUT := Lib.hid (fun i => canV_out l q (i := i))
  generalize spR l q = R at HNO HYES ⊢
  generalize canV l q = B at HNO HYES HOUT ⊢
  have HS := Lib.hid hs
  have HQ := Lib.hid hq
  clear hs hq
  have hg := heap_alloc_last w (.cells (lg l) 23)
  have HB := Lib.hid ((Below.refl w.heap.size w).alloc (Nat.le_refl _) (.cells (lg l) 23))
  go_enter Try.func19, Try.ntmps19
  go_upto_region 1 with fail
  generalize w.alloc (.cells (lg l) 23) = w1 at hg HB ⊢
  go_upto_region 2 with (first
    | (refine wpList_load_row rfl 23 _ rfl w.heap.size rfl 23 (lg l) (0, 0) _ hg Try.underlying23 rfl (lngIk h) ?_)
    | (with_reducible refine (HRC.out _).mono ?_; rintro e w2 ⟨rfl, hb2⟩)
    | (refine wpList_store_row rfl 54 _ _ rfl w2.heap.size (cl D) rfl rfl 54 (cl zC) (heap_alloc_last w2 _) (cdsIk hcd) (by rw [cl_size zC_cds, hcs]) (cl_all _) ?_))
  rw [World.setRow_alloc_new]
  try simp only [Act.put]
  have hby := hb2.alloc (o := .cells (cl D) 54) hb2.size
  have h6 := heap_alloc_last w2 (.cells (cl D) 54)
  have hg3 := heap_on hby hg
  have HB3 := Lib.hid (HB.out.trans (hby.mono HB.out.size))
  obtain ⟨g6, hg6⟩ : ∃ g6, g6 = w2.heap.size := ⟨_, rfl⟩
  rw [← hg6] at h6 ⊢
  clear hg6 hby hb2 hg HB HRC hz
  generalize w2.alloc (.cells (cl D) 54) = w3 at h6 hg3 HB3 ⊢
  have H6 := Lib.hid h6
  have HG := Lib.hid hg3
  clear h6 hg3
  go_upto_region 6 with fail
  go_loopw [8, 9] (fun o v wr => ∃ (i : Nat) (A : Option Nat) (m c : Nat), i ≤ n ∧ v = .int .i64 i ∧ o = .slice (ad0 A) m c ∧ m = (spV l (q.take i)).length ∧ (q.take i).all (okS l) = true ∧ NewO w3 wr A c (spV l (q.take i))) (fun _ v _ => n - (intOf v).toNat)
  case atStart => exact ⟨0, none, 0, 0, by omega, rfl, rfl, rfl, rfl, NewO.nil w3⟩
  case round =>
    obtain ⟨i, A, m, c, hi, rfl, rfl, hm, hall, hs3⟩ := hrel
    have HO := Lib.hid hs3
    have HM := Lib.hid hm
    have HALL := Lib.hid hall
    have hm8 : m ≤ 150000 := by
      have := spV_len HV.small (q.take i)
      rw [List.length_take] at this
      omega
    clear hs3 hm hall
    by_cases hlt : i < n
    · have hiq : i < q.length := by rw [HQ.out]; exact hlt
      obtain ⟨g, o, rfl, hcb⟩ := ((HS.out.below HB3.out).below HO.out.bel).get hiq
      have HBAD := Lib.hid (HOUT.out i hiq)
      have HTK := Lib.hid (spV_take l q i hiq)
      have HAT := Lib.hid (all_take l q i hiq HALL.out)
      generalize q.getD i 0 = x at hcb HBAD HTK HAT
      clear hiq
      have HBR := Lib.hid (heap_on HO.out.bel HG.out)
      by_cases hx0 : x < 0
      · have hB : B = false := HBAD.out (by unfold okS; rw [decide_eq_false (by omega)]; rfl)
        have hR := HNO.out hB
        subst hB
        have HR := Lib.hid hR
        have hd : decide (x < 0) = true := decide_eq_true hx0
        clear hR HYES HNO HBAD HTK HAT
        go_wp2_with fail
        go_returns
        exact ⟨none, 0, by rw [HR.out]; rfl, by rw [HR.out]; exact ⟨OwnS.nil _ _ _, (fun g e => by cases e), HB3.out.trans (HO.out.bel.mono HB3.out.size)⟩⟩
      · have hd : decide (x < 0) = false := decide_eq_false hx0
        by_cases hx1 : 258 ≤ x
        · have hB : B = false := HBAD.out (by unfold okS; rw [decide_eq_false (show ¬ x < 258 by omega), Bool.and_false]; rfl)
          have hR := HNO.out hB
          subst hB
          have HR := Lib.hid hR
          have hd2 : decide (258 ≤ x) = true := decide_eq_true hx1
          clear hR HYES HNO HBAD HTK HAT
          go_wp2_with fail
          go_returns
          exact ⟨none, 0, by rw [HR.out]; rfl, by rw [HR.out]; exact ⟨OwnS.nil _ _ _, (fun g e => by cases e), HB3.out.trans (HO.out.bel.mono HB3.out.size)⟩⟩
        · have hd2 : decide (258 ≤ x) = false := decide_eq_false hx1
          obtain ⟨s, rfl⟩ : ∃ s : Nat, x = (s : Int) := ⟨x.toNat, by omega⟩
          have hs : s < 258 := by omega
          rw [okS_nat, decide_eq_true hs, Bool.true_and] at HBAD HAT
          rw [Int.toNat_natCast] at HTK
          have c1 := lg_cell HBR.out h s hs
          have hbd := h.bd s
          have hsm := HV.small s
          have HCT := Lib.hid (cbV_take l s)
          have HCL := Lib.hid (cbV_len l s)
          have hln : lnN l s = (l.getD s 0).toNat := rfl
          by_cases h0 : 0 < l.getD s 0
          · rw [decide_eq_true h0] at HAT
            have c2 := cl_cell (heap_on HO.out.bel H6.out) hcd s hs
            rw [HGET.out s hs h0, cdL_nat HV hs h0] at c2
            have HCT2 := Lib.hid (fun m (hm : m < lnN l s) => HCT.out m hm (codeV l s) (cdL_nat HV hs h0))
            have hcm := codeV_small HV s hs
            have hdc := (HGET.out s hs h0).trans (cdL_nat HV hs h0)
            have HAL2 := Lib.hid (HAT.out rfl)
            clear HCT HBAD HAT HNO
            generalize codeV l s = C at c2 HCT2 hcm hdc
            have HDC := Lib.hid hdc
            clear hdc
            generalize cbV l s = V at HTK HCT2 HCL
            generalize lnN l s = p at HCT2 HCL hln
            generalize l.getD s 0 = v at c1 hbd hsm h0 hln
            obtain rfl : v = (p : Int) := by omega
            clear hln
            have hp0 : 0 < p := by omega
            have hp15 : p ≤ 15 := by omega
            have hpe : ((p : Int) == 0) = false := by rw [beq_eq_false_iff_ne]; omega
            generalize spV l (q.take i) = Q at HO HM HTK
            go_upto_region 12 with fail
            clear hpe hd hd2 c1
            go_loopw [8, 11] (fun o v wr => ∃ (m2 : Nat) (A : Option Nat) (n2 c : Nat), m2 ≤ p ∧ v = .int .i64 ((p : Int) - 1 - m2) ∧ o = .slice (ad0 A) n2 c ∧ n2 = m + m2 ∧ NewO w3 wr A c (Q ++ V.take m2)) (fun _ v _ => (intOf v + 1).toNat)
            case atStart => exact ⟨0, A, m, c, by omega, by simp, rfl, by omega, by simpa using HO.out⟩
            case round =>
              obtain ⟨m2, A2, n2, cc2, hm2, rfl, rfl, hn2, hs2⟩ := hrel
              have HO2 := Lib.hid hs2
              clear hs2
              by_cases hlt2 : m2 < p
              · have hct := HCT2.out m2 hlt2
                obtain ⟨k, hk⟩ : ∃ k : Nat, k = p - 1 - m2 := ⟨_, rfl⟩
                rw [← hk] at hct
                have HCT3 := Lib.hid hct
                have hkI : (p : Int) - 1 - m2 = (k : Int) := by omega
                rw [hkI]
                have HK := Lib.hid hk
                have hk15 : k ≤ 15 := by omega
                have c3 := cl_cell (heap_on HO2.out.bel H6.out) hcd s hs
                rw [HDC.out] at c3
                have hVl : (V.take m2).length = m2 := by rw [List.length_take, HCL.out]; omega
                have HLL := Lib.hid (show (Q ++ V.take m2).length = n2 by rw [List.length_append, hVl, ← HM.out, hn2])
                have HN2 := Lib.hid hn2
                clear hct hk hkI hn2
                have HBT := Lib.hid (code_bit C k hcm)
                have hn29 : n2 ≤ 150020 := by have := HLL.out; rw [List.length_append, hVl, ← HM.out] at this; omega
                clear hVl
                go_wp2_with (
                  refine wpList_appendI rfl _ _ 24 rfl 3 .i64 8 intsT intI A2 cc2 (Q ++ V.take m2) n2 HLL.out rfl (HO2.out.own.alloc _) (some ⟨wr.heap.size, 0, none⟩) 1 1 rfl [wrap64 (bits BinOp.and IntKind.u32 ((C : Int) / 2 ^ k) 1)] rfl (Src.whole (l := [wrap64 (bits BinOp.and IntKind.u32 ((C : Int) / 2 ^ k) 1)]) (heap_alloc_last wr _)) (by unfold maxLen; omega) (by omega) ?_
                  intro A' c' w4 h1 h2 h3)
                have hN := (HO2.out.alloc _).app h1 h2 h3
                rw [HBT.out, List.append_assoc, ← HCT3.out] at hN
                refine ⟨⟨m2 + 1, A', n2 + 1, c', by omega, ?_, rfl, ?_, hN⟩, ?_⟩
                · have := HK.out
                  have e : (p : Int) - 1 - ((m2 + 1 : Nat) : Int) = (k : Int) - 1 := by omega
                  rw [e]
                  try go_num
                · have := HN2.out
                  omega
                · have := HK.out
                  simp [intOf]
                  try omega
              · obtain rfl : m2 = p := by omega
                have he : (m2 : Int) - 1 - m2 = -1 := by omega
                rw [he]
                have HN2 := Lib.hid hn2
                clear hn2
                go_wp2_with fail
                refine ⟨⟨i + 1, A2, n2, cc2, by omega, by go_num, rfl, ?_, HAL2.out, ?_⟩, by simp [intOf]; omega⟩
                · rw [HTK.out, List.length_append, HCL.out, ← HM.out]
                  exact HN2.out
                · have hN := HO2.out
                  rw [List.take_of_length_le (by rw [HCL.out]; exact Nat.le_refl _)] at hN
                  rw [HTK.out]
                  exact hN
          · have hB : B = false := HBAD.out (decide_eq_false h0)
            have hR := HNO.out hB
            subst hB
            have HR := Lib.hid hR
            have hv0 : l.getD s 0 = 0 := by omega
            rw [hv0] at c1
            clear hR HYES HNO HBAD HTK HAT hln hbd hsm h0 hv0 HCT HCL
            go_wp2_with fail
            go_returns
            exact ⟨none, 0, by rw [HR.out]; rfl, by rw [HR.out]; exact ⟨OwnS.nil _ _ _, (fun g e => by cases e), HB3.out.trans (HO.out.bel.mono HB3.out.size)⟩⟩
    · obtain rfl : i = n := by omega
      have hall := HALL.out
      have hoo := HO.out
      have hmm := HM.out
      rw [List.take_of_length_le (by rw [HQ.out]; exact Nat.le_refl _)] at hall hoo hmm
      obtain ⟨hR, hB⟩ := HYES.out hall
      rw [← hR] at hoo hmm
      subst hB
      have HOO := Lib.hid hoo
      have HMM := Lib.hid hmm
      clear HYES HNO HOUT hR hall hoo hmm
      go_wp2_with fail
      go_returns
      exact ⟨A, c, by rw [← HMM.out]; rfl, HOO.out.own, fun g e => Nat.le_trans HB3.out.size (HOO.out.new g e), HB3.out.trans (HOO.out.bel.mono HB3.out.size)⟩
end Go.Proofs.Ytnpohkaicfcidaa
