/- Law CanonicalWhole. -/
import Derived.Test.YtdbpdnfniidfhaaCnW
import Derived.Test.YtdbpdnfniidfhaaOlC
set_option linter.unusedVariables false
set_option linter.unusedSimpArgs false
namespace Go.Proofs.Ytdbpdnfniidfhaa
open Go.RowKit

instance (l : List Int) (b s : Nat) : Decidable (hitN l b s) := inferInstanceAs (Decidable (_ ∧ _ ∧ _))
/-- How many of the first k symbols' codes begin the string. -/
def hitC (l : List Int) (b k : Nat) : Nat := ((List.range k).filter fun s => decide (hitN l b s)).length
theorem hitC_zero (l : List Int) (b : Nat) : hitC l b 0 = 0 := rfl
theorem hitC_yes (l : List Int) (b k : Nat) (h : hitN l b k) : hitC l b (k + 1) = hitC l b k + 1 := by
  unfold hitC
  rw [List.range_succ, List.filter_append, List.length_append, List.filter_cons_of_pos (by simpa using h)]
  rfl
theorem hitC_no (l : List Int) (b k : Nat) (h : ¬ hitN l b k) : hitC l b (k + 1) = hitC l b k := by
  unfold hitC
  rw [List.range_succ, List.filter_append, List.length_append, List.filter_cons_of_neg (by simpa using h)]
  rfl
theorem hitC_le (l : List Int) (b k : Nat) : hitC l b k ≤ k := by
  unfold hitC
  have := List.length_filter_le (fun s => decide (hitN l b s)) (List.range k)
  rwa [List.length_range] at this
theorem hitC_one (l : List Int) (b : Nat) : hitC l b 258 ≤ 1 := by
  have key : ∀ k, k ≤ 258 → hitC l b k ≤ 1 ∧ ((∃ s, s < k ∧ hitN l b s) ↔ hitC l b k = 1) := by
    intro k
    induction k with
    | zero =>
      refine fun _ => ⟨Nat.zero_le _, ?_, ?_⟩
      · rintro ⟨s, h, _⟩
        omega
      · intro h
        rw [hitC_zero] at h
        omega
    | succ k ih =>
      intro hk
      obtain ⟨h1, h2⟩ := ih (by omega)
      by_cases h : hitN l b k
      · have h3 : hitC l b k = 0 := by
          have : ¬ hitC l b k = 1 := fun e => by
            obtain ⟨s, hs, hh⟩ := h2.2 e
            have := hitN_one l b s k (by omega) (by omega) hh h
            omega
          omega
        rw [hitC_yes l b k h, h3]
        exact ⟨Nat.le_refl _, fun _ => rfl, fun _ => ⟨k, by omega, h⟩⟩
      · rw [hitC_no l b k h]
        refine ⟨h1, fun ⟨s, hs, hh⟩ => h2.1 ⟨s, ?_, hh⟩, fun e => ?_⟩
        · by_cases e : s = k
          · subst e; exact absurd hh h
          · omega
        · obtain ⟨s, hs, hh⟩ := h2.2 e
          exact ⟨s, by omega, hh⟩
  exact (key 258 (Nat.le_refl _)).1
theorem hitC_iff (l : List Int) (b : Nat) : hitC l b 258 = 1 ↔ b < kfN l := by
  rw [← hitN_some]
  constructor
  · intro h
    by_cases he : ∃ s, s < 258 ∧ hitN l b s
    · exact he
    · exfalso
      have h0 : (List.range 258).filter (fun s => decide (hitN l b s)) = [] := by
        rw [List.filter_eq_nil_iff]
        intro s hs hh
        exact he ⟨s, List.mem_range.1 hs, of_decide_eq_true hh⟩
      unfold hitC at h
      rw [h0] at h
      cases h
  · rintro ⟨s, hs, hh⟩
    have h1 := hitC_one l b
    have h2 : 0 < hitC l b 258 := by
      unfold hitC
      exact List.length_pos_of_mem (List.mem_filter.2 ⟨List.mem_range.2 hs, by simpa using hh⟩)
    omega
theorem hit_code {l : List Int} (h : VL l) (b s v : Nat) (hs : s < 258) (hv : l.getD s 0 = (v : Int)) (h0 : 0 < v) : hitN l b s ↔ ((b / 2 ^ (15 - v) : Nat) : Int) = cdL l s := by
  have h15 := h.small s
  have e := codeV_fc h s hs (by omega)
  have e2 : lnN l s = v := lnN_sym hv
  unfold hitN
  rw [e2]
  show _ ∧ _ ∧ b / 2 ^ (15 - v) = codeV l s ↔ _
  unfold cdL
  rw [← e]
  constructor
  · rintro ⟨_, _, h3⟩
    omega
  · intro h3
    exact ⟨by omega, h15, by omega⟩

set_option maxRecDepth 100000 in
set_option maxHeartbeats 2000000 in
theorem whole_call (l : List Int) (h : Lng l) (bits : Int) (hb : (Lit.int .u32 bits).wf = true) (w : World) :
    Calls Try.prog 4 #[.agg (lg l), .int .u32 bits] w fun e w' => e = .returned (.bool true) ∧ Below w.heap.size w w' := by
  have hbb := bounds_u32 hb
  obtain ⟨B, rfl⟩ : ∃ B : Nat, bits = B := ⟨bits.toNat, by omega⟩
  clear hb
  go_enter Try.func4, Try.ntmps4
  go_upto_region 1 with fail
  have hg := heap_alloc_last w (.cells (lg l) 23)
  have hb := (Below.refl w.heap.size w).alloc (Nat.le_refl _) (.cells (lg l) 23)
  generalize w.alloc (.cells (lg l) 23) = w1 at hg hb ⊢
  have HB := Lib.hid hb
  have hsc := fun W => rsum_call l h W
  clear hb
  by_cases hv : ks l ≤ 32768
  · have HVL : VL l := ⟨h, hv⟩
    have hkf := ks_kf h HVL.small
    have hk2 := HVL.kf
    rw [rsV_eq hv, hkf] at hsc
    have HIF := Lib.hid (fun b => hitC_iff l b)
    have hcd := fun W => codes_call l h W
    rw [show codE l = 0 from if_pos hv] at hcd
    have HR := Lib.hid (show codR l = codT l 258 from if_pos hv)
    have hcc := codR_cds h
    clear hv hkf
    generalize kfN l = S at hsc HIF hk2
    obtain ⟨c, hc⟩ : ∃ c, c = codR l := ⟨_, rfl⟩
    rw [← hc] at hcd hcc HR
    clear hc
    have hzC := cdsZ
    have hle : (decide ((32768 : Int) < S)) = false := by simp; omega
    have hle2 : (decide (32768 < S)) = false := by simp; omega
    go_upto_region 4 with (first
      | (refine wpList_load_row rfl 23 _ rfl w.heap.size rfl 23 (lg l) (0, 0) _ hg Try.underlying23 rfl (lngIk h) ?_)
      | (with_reducible refine (hsc _).mono ?_; rintro e w2 ⟨rfl, hb2⟩))
    have hg2 := heap_on hb2 hg
    replace HB := Lib.hid (HB.out.trans (hb2.mono HB.out.size))
    clear hb2 hg hsc hle hle2
    go_upto_region 5 with (first
      | (refine wpList_load_row rfl 23 _ rfl w.heap.size rfl 23 (lg l) (0, 0) _ hg2 Try.underlying23 rfl (lngIk h) ?_)
      | (with_reducible refine (hcd _).mono ?_; rintro e w3 ⟨rfl, hb3⟩)
      | (refine wpList_store_row rfl 28 _ _ rfl w3.heap.size (cl c) rfl rfl 28 (cl zC) (heap_alloc_last w3 _) (cdsIk hcc) (by rw [cl_size zC_cds, cl_size hcc]) (cl_all _) ?_))
    rw [World.setRow_alloc_new]
    have hb4 := hb3.alloc (o := .cells (cl c) 28) hb3.size
    have hg4 := heap_on hb4 hg2
    replace HB := Lib.hid (HB.out.trans (hb4.mono HB.out.size))
    have hc4 := heap_alloc_last w3 (.cells (cl c) 28)
    obtain ⟨g6, hg6⟩ : ∃ g6, g6 = w3.heap.size := ⟨_, rfl⟩
    rw [← hg6] at hc4 ⊢
    clear hg6 hb3 hb4 hcd hzC hg2
    generalize w3.alloc (.cells (cl c) 28) = w4 at hg4 hc4 HB ⊢
    obtain ⟨b, hbd⟩ : ∃ b, b = B % 32768 := ⟨_, rfl⟩
    have hb15 : b < 32768 := by omega
    have hbe : ((B : Int) % 32768) = (b : Int) := by omega
    go_upto_region 6 with fail
    rw [hbe]
    clear hbd hbe hbb
    go_upto_region 8 with fail
    go_loopw [8, 9] (fun n i wr => ∃ k : Nat, k ≤ 258 ∧ i = .int .i64 k ∧ n = .int .i64 (hitC l b k : Nat) ∧ wr.heap[w.heap.size]? = some (.cells (lg l) 23 (0, 0)) ∧ wr.heap[g6]? = some (.cells (cl c) 28 (0, 0)) ∧ Below w.heap.size w wr) (fun _ i _ => 258 - (intOf i).toNat)
    case atStart => exact ⟨0, by omega, rfl, rfl, hg4, hc4, HB.out⟩
    case round =>
      obtain ⟨k, hk, rfl, rfl, hgr, hcr, hbr⟩ := hrel
      have HGr := Lib.hid hgr
      have HCr := Lib.hid hcr
      have HBr := Lib.hid hbr
      clear hbr
      by_cases hlt : k < 258
      · have hcl := lg_cell hgr h k hlt
        have hck := cl_cell hcr hcc k hlt
        have hbdv := h.bd k
        have hsm := HVL.small k
        have hhc := hitC_le l b k
        have HX := Lib.hid (show 0 < l.getD k 0 → c.getD k 0 = cdL l k from fun h0 => by rw [HR.out, codT, row258_get _ k hlt, if_pos ⟨hlt, h0⟩])
        have HHY := Lib.hid (hitC_yes l b k)
        have HHN := Lib.hid (hitC_no l b k)
        have HCB := Lib.hid (HVL.cdL k hlt)
        have HHC := Lib.hid (fun v => hit_code HVL b k v hlt)
        have HH0 := Lib.hid (show ¬ 0 < l.getD k 0 → ¬ hitN l b k from fun h1 h2 => h1 (by have := h2.1; omega))
        clear hgr hcr
        generalize l.getD k 0 = V at hcl hbdv hsm HX HHC HH0
        obtain ⟨v, rfl⟩ : ∃ v : Nat, V = v := ⟨V.toNat, by omega⟩
        by_cases h0 : 0 < v
        · have HX2 := Lib.hid (HX.out (by omega))
          rw [HX2.out] at hck
          have hcb := HCB.out
          have HHC2 := Lib.hid (HHC.out v rfl h0)
          generalize cdL l k = X at hck hcb HHC2
          obtain ⟨x, rfl⟩ : ∃ x : Nat, X = x := ⟨X.toNat, by omega⟩
          have hsub : IntKind.i64.wrap (15 - (v : Int)) = ((15 - v : Nat) : Int) := by rw [IntKind.wrap_i64]; omega
          obtain ⟨d, hd⟩ : ∃ d, d = 15 - v := ⟨_, rfl⟩
          rw [← hd] at hsub HHC2
          have hd32 : d ≤ 32 := by omega
          have hbq : ((b : Int) / 2 ^ d) = ((b / 2 ^ d : Nat) : Int) := by simp
          have HBQ := Lib.hid hbq
          generalize b / 2 ^ d = Q at HHC2 HBQ
          clear hd hbq HX HHC HH0 HCB HX2
          generalize hitC l b k = N0 at hhc HHY HHN ⊢
          go_upto_region 10 with fail
          go_quiet (fail)
          by_cases hQ : Q = x
          · have HE := Lib.hid (HHY.out (HHC2.out.2 (by omega)))
            have hqe : ((b : Int) / 2 ^ d == (x : Int)) = true := by rw [HBQ.out]; simp [hQ]
            clear HHY HHN HHC2 hQ
            go_wp2_with fail
            exact ⟨⟨k + 1, by omega, by go_num, by rw [HE.out]; rfl, HGr.out, HCr.out, HBr.out.drewN _⟩, by simp [intOf]; omega⟩
          · have HE := Lib.hid (HHN.out (fun e => hQ (by have := HHC2.out.1 e; omega)))
            have hqe : ((b : Int) / 2 ^ d == (x : Int)) = false := by rw [HBQ.out]; simp; omega
            clear HHY HHN HHC2 hQ
            go_wp2_with fail
            exact ⟨⟨k + 1, by omega, by go_num, by rw [HE.out], HGr.out, HCr.out, HBr.out.drewN _⟩, by simp [intOf]; omega⟩
        · have HE := Lib.hid (HHN.out (HH0.out (by omega)))
          obtain rfl : v = 0 := by omega
          clear HX HHC HH0 HCB HHY HHN
          generalize hitC l b k = N0 at hhc HE ⊢
          go_upto_region 10 with fail
          go_quiet (fail)
          go_wp2_with fail
          exact ⟨⟨k + 1, by omega, by go_num, by rw [HE.out], HGr.out, HCr.out, HBr.out.drewN _⟩, by simp [intOf]; omega⟩
      · obtain rfl : k = 258 := by omega
        have h1 := hitC_one l b
        have h2 := HIF.out b
        clear hgr hcr
        generalize hitC l b 258 = N at h1 h2 ⊢
        by_cases hbS : b < S
        · obtain rfl : N = 1 := h2.2 hbS
          by_cases hS : S < 32768
          · have hw : wrap64 (b : Int) = (b : Int) := by unfold wrap64; omega
            have e1 : (decide ((S : Int) < 32768)) = true := by simp; omega
            have e3 : (decide (S < 32768)) = true := by simp; omega
            have e2 : (decide (b < S)) = true := by simpa using hbS
            clear hS hbS hb15 hk2 HIF h2 h1
            go_wp2_with (with_reducible refine (wakes_call _).mono ?_; rintro e w5 ⟨rfl, hb5⟩)
            go_ret
            exact ⟨rfl, HBr.out.trans (hb5.mono HBr.out.size)⟩
          · go_wp2_with (with_reducible refine (wakes_call _).mono ?_; rintro e w5 ⟨rfl, hb5⟩)
            go_ret
            exact ⟨rfl, HBr.out.trans (hb5.mono HBr.out.size)⟩
        · obtain rfl : N = 0 := by
            have : ¬ N = 1 := fun e => hbS (h2.1 e)
            omega
          have hS : S < 32768 := by omega
          clear h1 h2
          go_wp2_with (with_reducible refine (wakes_call _).mono ?_; rintro e w5 ⟨rfl, hb5⟩)
          go_ret
          exact ⟨rfl, HBr.out.trans (hb5.mono HBr.out.size)⟩
  · have hno : 32768 < rsV l := by
      have := (rsV_iff l).1
      omega
    have hbs : rsV l ≤ 8454402 := by
      unfold rsV
      have := ks_bd h
      split <;> omega
    generalize rsV l = S at hno hbs hsc
    clear hv
    go_wp2_with (first
      | (refine wpList_load_row rfl 23 _ rfl w.heap.size rfl 23 (lg l) (0, 0) _ hg Try.underlying23 rfl (lngIk h) ?_)
      | (with_reducible refine (hsc _).mono ?_; rintro e w2 ⟨rfl, hb2⟩)
      | (with_reducible refine (wakes_call _).mono ?_; rintro e w3 ⟨rfl, hb3⟩))
    go_ret
    exact ⟨rfl, (HB.out.trans (hb2.mono HB.out.size)).trans (hb3.mono (HB.out.trans (hb2.mono HB.out.size)).size)⟩
end Go.Proofs.Ytdbpdnfniidfhaa
