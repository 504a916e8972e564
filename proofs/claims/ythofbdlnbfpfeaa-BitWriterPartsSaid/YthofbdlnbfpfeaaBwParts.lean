/- The walk over winepresslaw02.BitWriterParts. -/
import Derived.Test.YthofbdlnbfpfeaaBwWakes
import Derived.Deep.DeepCutAuto
import Derived.IntWalk
import Derived.Deep.RegionHeld3
set_option linter.unusedVariables false
set_option linter.unusedSimpArgs false
namespace Go.Proofs.Ythofbdlnbfpfeaa
open Go.RowKit

theorem wlenN {w : World} {p : Nat} {A : Option Nat} {c : Nat} {bs : List Int} (h : Wr w p A c bs) (n : Nat) (hn : bs.length = n) :
    Calls Try.prog 12 #[.pointer (some ⟨p, 0, none⟩)] w fun e w' => e = .returned (.int .i64 n) ∧ w = w' := by
  subst hn
  exact wlen_call h
theorem bitsV_split (k : Nat) : ∀ (n : Nat) (v : Int), 0 ≤ v → bitsV (v / ((2 ^ k : Nat) : Int)) n ++ bitsV (v % ((2 ^ k : Nat) : Int)) k = bitsV v (n + k) := by
  induction k with
  | zero => intro n v h; simp [bitsV]
  | succ k ih =>
    intro n v h
    have hp : 0 < ((2 ^ k : Nat) : Int) := by have := Nat.two_pow_pos k; omega
    have e : ((2 ^ (k + 1) : Nat) : Int) = 2 * ((2 ^ k : Nat) : Int) := by rw [Nat.pow_succ, Nat.mul_comm, Int.natCast_mul]; rfl
    have e1 : v / ((2 ^ (k + 1) : Nat) : Int) = v / 2 / ((2 ^ k : Nat) : Int) := by rw [e, Int.ediv_ediv_of_nonneg (by omega)]
    have e2 : v % ((2 ^ (k + 1) : Nat) : Int) / 2 = v / 2 % ((2 ^ k : Nat) : Int) := by
      rw [e, Int.emod_def, Int.emod_def, ← Int.ediv_ediv_of_nonneg (by omega : (0 : Int) ≤ 2)]
      rw [Int.mul_assoc]
      omega
    have e3 : v % ((2 ^ (k + 1) : Nat) : Int) % 2 = v % 2 := by rw [e]; exact Int.emod_emod_of_dvd _ ⟨_, rfl⟩
    rw [bitsV_succ (v % _) k, e1, e2, e3, ← List.append_assoc, ih n (v / 2) (by omega), ← Nat.add_assoc, bitsV_succ]
theorem and_mask64 (v : Int) (k : Nat) (hv : 0 ≤ v) (hv' : v ≤ 4294967295) (hk : k ≤ 32) : bits .and .u64 v (IntKind.u64.wrap (IntKind.u64.wrap (2 ^ k) - 1)) = v % ((2 ^ k : Nat) : Int) := by
  have hp : 0 < 2 ^ k := Nat.two_pow_pos k
  have hp2 : 2 ^ k ≤ 2 ^ 32 := Nat.pow_le_pow_right (by omega) hk
  have e1 : IntKind.u64.wrap (2 ^ k) = ((2 ^ k : Nat) : Int) := by
    rw [show (2 : Int) ^ k = ((2 ^ k : Nat) : Int) by simp]
    exact IntWalk.u64_in _ (by omega)
  obtain ⟨V, rfl⟩ := Int.eq_ofNat_of_zero_le hv
  rw [e1, show ((2 ^ k : Nat) : Int) - 1 = ((2 ^ k - 1 : Nat) : Int) by omega, IntWalk.u64_in _ (by omega), u64_and_nat V (2 ^ k - 1) (by omega) (by omega), Nat.and_two_pow_sub_one_eq_mod]
  simp

/-- The string of a writer's bytes, told by a name. -/
theorem bytesP {B : Nat} {w : World} {p : Nat} {A : Option Nat} {c : Nat} {bs : List Int} (h : WrB B w p A c bs) (n : Nat) (hn : (bs.length + 7) / 8 = n) (st : ByteArray) (hl : bstr (packB bs) = st) :
    Calls Try.prog 13 #[.pointer (some ⟨p, 0, none⟩)] w fun e w' => ∃ g : Nat, e = .returned (.slice (some ⟨g, 0, none⟩) n n) ∧
      w'.heap[g]? = some (.cells (icells .u8 (packB bs)) 5 (0, 0)) ∧ (convert 23 9 (.slice (some ⟨g, 0, none⟩) n n)).run Try.prog w' = .ok (.string st) w' ∧ Below w.heap.size w w' := by
  subst hl
  exact bytesB h n hn _ rfl
theorem again {w w' : World} {g : Nat} {bs : List Int} (hg : w.heap[g]? = some (.cells (icells .u8 (packB bs)) 5 (0, 0))) (hb : Below w.heap.size w w') (n : Nat) (hn : (bs.length + 7) / 8 = n) (st : ByteArray) (hl : bstr (packB bs) = st) :
    (convert 23 9 (.slice (some ⟨g, 0, none⟩) n n)).run Try.prog w' = .ok (.string st) w' := by
  subst hl
  subst hn
  exact run_bstr (P := Try.prog) sliceT byteT strT w' _ _ _ _ (packB_length _) (Src.whole ((hb.block g (Array.getElem?_eq_some_iff.1 hg).1).trans hg))
/-- What holds throughout the last statement. -/
def PartsS (w : World) (B q : Nat) (A3 A5 : Option Nat) (c3 c5 : Nat) (bs : List Int) (W : World) : Prop := WrB 0 W B A3 c3 bs ∧ WrB 0 W q A5 c5 bs ∧ Below B w W ∧ B ≤ W.heap.size
theorem PartsS.drew {w W : World} {B q : Nat} {A3 A5 : Option Nat} {c3 c5 : Nat} {bs : List Int} (h : PartsS w B q A3 A5 c3 c5 bs W) : PartsS w B q A3 A5 c3 c5 bs W.drew := ⟨h.1.drew, h.2.1.drew, h.2.2.1.drew, h.2.2.2⟩
theorem PartsS.below {w W W' : World} {B q : Nat} {A3 A5 : Option Nat} {c3 c5 : Nat} {bs : List Int} (h : PartsS w B q A3 A5 c3 c5 bs W) (hb : Below W.heap.size W W') : PartsS w B q A3 A5 c3 c5 bs W' := ⟨h.1.below hb, h.2.1.below hb, h.2.2.1.trans (hb.mono h.2.2.2), Nat.le_trans h.2.2.2 hb.size⟩

set_option maxRecDepth 100000 in
set_option maxHeartbeats 4000000 in
theorem parts_good (v : Int) (wd : Nat) (low : Int) (w : World) (hv : 0 ≤ v) (hv' : v ≤ 4294967295) (hw : wd ≤ 32) (hf : v < ((2 ^ wd : Nat) : Int)) (hl : -9223372036854775808 ≤ low) (hl' : low ≤ 9223372036854775807) :
    Calls Try.prog 5 #[.int .u32 v, .int .i64 wd, .int .i64 low] w fun e w' => e = .returned (.bool true) ∧ Below w.heap.size w w' := by
  obtain ⟨B, hB⟩ : ∃ B, B = w.heap.size := ⟨_, rfl⟩
  rw [← hB]
  have hB' := Lib.hid hB
  clear hB
  go_enter Try.func5, Try.ntmps5
  go_wp2_with fail
  refine (newB B w (by rw [hB'.out]; exact Nat.le_refl _)).mono ?_
  rintro e w1 ⟨rfl, hw1, hb⟩
  rw [← hB'.out] at hw1 hb ⊢
  have b1 := Lib.hid hb
  clear hb
  go_wp2_with fail
  refine (wnew_call w1).mono ?_
  rintro e w2 ⟨rfl, hr2, hb⟩
  have hw2 := hw1.below hb
  have b2 := Lib.hid (b1.out.trans (hb.mono hw1.sz))
  have hpq : B < w1.heap.size := hw1.wr.plt
  obtain ⟨q, hq⟩ : ∃ q, q = w1.heap.size := ⟨_, rfl⟩
  rw [← hq] at hr2 hpq ⊢
  clear hb hw1 b1 hq
  go_wp2_with fail
  refine (put_yes hw2.wr v hv hv' wd hw hf (by simp; omega)).mono ?_
  rintro e w3 ⟨rfl, A3, c3, hw3, hC3, hA3⟩
  have hr3 := hr2.ch hC3 (fun k hk e => by
    rcases hk with rfl | hk
    · rcases e with e | e
      · omega
      · cases e
    · cases hk)
  have hB3 := b2.out.trans (hC3.below hw2.sz hw2.fp)
  have hdis : ∀ k, Fp q none k → ¬ Fp B A3 k := fun k hk e => by
    rcases hk with rfl | hk
    · rcases e with e | e
      · omega
      · have := hr2.plt
        rcases hA3 _ e with h | h
        · cases h
        · omega
    · cases hk
  obtain ⟨lw, hlw⟩ : ∃ lw : Nat, (lw : Int) = min (max low 0) wd := ⟨(min (max low 0) wd).toNat, by omega⟩
  have hlw2 : lw ≤ wd := by omega
  have hP : 0 < (2 ^ wd : Nat) := Nat.two_pow_pos wd
  have hP2 : (2 ^ wd : Nat) ≤ 2 ^ 32 := Nat.pow_le_pow_right (by omega) hw
  have e1 : IntKind.u64.wrap (2 ^ wd) = ((2 ^ wd : Nat) : Int) := by
    rw [show (2 : Int) ^ wd = ((2 ^ wd : Nat) : Int) by simp]
    exact IntWalk.u64_in _ (by omega)
  have dv : decide (IntKind.u64.wrap (2 ^ wd) ≤ v) = false := by rw [e1]; simp only [decide_eq_false_iff_not]; omega
  have HF := Lib.hid hf
  have HLW := Lib.hid hlw
  have HD := Lib.hid hdis
  have HB3 := Lib.hid hB3
  have H3 := Lib.hid hw3
  have HR := Lib.hid hr3
  clear e1 hP hP2 hf hlw hdis hB3 hw3 hr3 hC3 hA3 hr2 hw2 b2
  have dm : (0 : Int) ≤ (wd : Int) := by omega
  go_upto_region 5 with fail
  go_cut [2] (fun s2 wx => s2 = .int .i64 lw ∧ wx = w3)
  case first =>
    go_wp2
    all_goals go_meet
    all_goals
      refine ⟨?_, rfl⟩
      congr 1
      have := HLW.out
      omega
  have hpl : 0 < 2 ^ lw := Nat.two_pow_pos lw
  have el : ((2 ^ lw : Nat) : Int) = 2 ^ lw := by simp
  have hh1 : v / ((2 ^ lw : Nat) : Int) ≤ v := Int.ediv_le_self _ hv
  have hh0 : 0 ≤ v / ((2 ^ lw : Nat) : Int) := Int.ediv_nonneg hv (by omega)
  have hhf : v / ((2 ^ lw : Nat) : Int) < ((2 ^ (wd - lw) : Nat) : Int) := by
    refine Int.ediv_lt_of_lt_mul (by omega) ?_
    rw [← Int.natCast_mul, ← Nat.pow_add, Nat.sub_add_cancel hlw2]
    exact HF.out
  have eh : v / 2 ^ lw % 4294967296 = v / ((2 ^ lw : Nat) : Int) := by rw [← el]; omega
  have hm0 : 0 ≤ v % ((2 ^ lw : Nat) : Int) := Int.emod_nonneg _ (by omega)
  have hm1 : v % ((2 ^ lw : Nat) : Int) < ((2 ^ lw : Nat) : Int) := Int.emod_lt_of_pos _ (by omega)
  have hm2 : v % ((2 ^ lw : Nat) : Int) ≤ v := by
    have := Int.emod_add_mul_ediv v ((2 ^ lw : Nat) : Int)
    have h3 : 0 ≤ ((2 ^ lw : Nat) : Int) * (v / ((2 ^ lw : Nat) : Int)) := Int.mul_nonneg (by omega) hh0
    omega
  have em : bits .and .u64 v (IntKind.u64.wrap (IntKind.u64.wrap (2 ^ lw) - 1)) % 4294967296 = v % ((2 ^ lw : Nat) : Int) := by rw [and_mask64 v lw hv hv' (by omega)]; omega
  have hsp := bitsV_split lw (wd - lw) v hv
  rw [Nat.sub_add_cancel hlw2] at hsp
  obtain ⟨hi, hhi⟩ : ∃ x, x = v / ((2 ^ lw : Nat) : Int) := ⟨_, rfl⟩
  obtain ⟨lo, hlo⟩ : ∃ x, x = v % ((2 ^ lw : Nat) : Int) := ⟨_, rfl⟩
  rw [← hhi] at hsp hhf eh hh0 hh1
  rw [← hlo] at hsp hm0 hm1 hm2 em
  have EH := Lib.hid eh
  have EM := Lib.hid em
  have HSP := Lib.hid hsp
  have HM1 := Lib.hid hm1
  have HHF := Lib.hid hhf
  clear hpl el eh em hsp hhi hlo hm1 hhf
  go_wp2_with fail
  rw [EH.out, show (wd : Int) - lw = ((wd - lw : Nat) : Int) by omega]
  refine (put_yes HR.out hi hh0 (by omega) (wd - lw) (by omega) HHF.out (by simp; omega)).mono ?_
  rintro e w4 ⟨rfl, A4, c4, hr4, hC4, hA4⟩
  have hdis4 : ∀ k, Fp B A3 k → ¬ Fp q A4 k := fun k hk e => by
    rcases e with rfl | e
    · exact HD.out _ (.inl rfl) hk
    · rcases hA4 k e with h | h
      · cases h
      · have := H3.out.fpLt hk; omega
  have hw4 := H3.out.ch hC4 (fun k hk e => HD.out k e hk)
  have b4 := Lib.hid (HB3.out.trans (hC4.below (Nat.le_trans (by rw [hB'.out]; exact Nat.le_refl _) HB3.out.size) (fun k hk => by
    rcases hk with rfl | hk
    · omega
    · cases hk)))
  have HD4 := Lib.hid hdis4
  have HW4 := Lib.hid hw4
  have HR4 := Lib.hid hr4
  have hA4' : ∀ k, Fp q A4 k → B ≤ k := fun k hk => by
    rcases hk with rfl | hk
    · omega
    · rcases hA4 k hk with h | h
      · cases h
      · have := HB3.out.size; have := hB'.out; omega
  have HA4 := Lib.hid hA4'
  clear hdis4 hw4 hr4 hC4 hA4 HD HR H3 HB3 hA4'
  go_wp2_with fail
  rw [EM.out]
  refine (put_yes HR4.out lo hm0 (by omega) lw (by omega) HM1.out (by simp [bitsV_length]; omega)).mono ?_
  rintro e w5 ⟨rfl, A5, c5, hr5, hC5, hA5⟩
  rw [List.nil_append, HSP.out] at hr5
  have hw5 := HW4.out.ch hC5 (fun k hk e => HD4.out k hk e)
  rw [List.nil_append] at hw5
  have b5 := Lib.hid (b4.out.trans (hC5.below (by have := b4.out.size; have := hB'.out; omega) HA4.out))
  have hBs : B ≤ w5.heap.size := by have := b5.out.size; have := hB'.out; omega
  have HW5 := Lib.hid (⟨hw5, fun k hk => Nat.zero_le _, Nat.zero_le _⟩ : WrB 0 w5 B A3 c3 (bitsV v wd))
  have HR5 := Lib.hid (⟨hr5, fun k hk => Nat.zero_le _, Nat.zero_le _⟩ : WrB 0 w5 q A5 c5 (bitsV v wd))
  have hlen : (bitsV v wd).length = wd := bitsV_length _ _
  have HL := Lib.hid hlen
  clear hw5 hr5 hC5 hA5 HD4 HW4 HR4 b4 HA4 hlen
  go_wp2_with fail
  have hS0 : PartsS w B q A3 A5 c3 c5 (bitsV v wd) w5.drew := PartsS.drew ⟨HW5.out, HR5.out, b5.out, hBs⟩
  have hpl : (packB (bitsV v wd)).length = (wd + 7) / 8 := by rw [packB_length, HL.out]
  have hn8 : ((bitsV v wd).length + 7) / 8 = (wd + 7) / 8 := by rw [HL.out]
  obtain ⟨st, hst⟩ : ∃ st, st = bstr (packB (bitsV v wd)) := ⟨_, rfl⟩
  have HST := Lib.hid hst
  have HN8 := Lib.hid hn8
  clear hpl hn8 hst hBs b5
  obtain ⟨m, hm⟩ : ∃ m, m = (wd + 7) / 8 := ⟨_, rfl⟩
  have HM := Lib.hid hm
  clear hm
  have hm8 : ((bitsV v wd).length + 7) / 8 = m := by rw [HN8.out, HM.out]
  have HM8 := Lib.hid hm8
  clear hm8
  refine wp_region_noPanic ?_
  refine wp_region_held_drew (S := (PartsS w B q A3 A5 c3 c5 (bitsV v wd))) (by kernel_rfl) ?_ (fun hHeld => ?_)
  · assumption
  refine wpAnyH_take (i := 0) (v := ?_) rfl (by kernel_rfl) (by kernel_rfl) (by kernel_rfl) (fun _ _ _ h => h) (Or.inl ⟨by rfl, ?_⟩) (by assumption) ?_
  rotate_left
  · (intro W hSw; (try dsimp only at hSw); go_simp) <;> with_reducible rfl
  try simp only [Act.put, List.getElem_toArray, List.getElem_cons_succ, List.getElem_cons_zero, List.setIfInBounds_toArray, List.set_cons_zero, List.set_cons_succ]
  refine wpAnyH_take (i := 1) (v := ?_) rfl (by kernel_rfl) (by kernel_rfl) (by kernel_rfl) (fun _ _ _ h => h) (Or.inl ⟨by rfl, ?_⟩) (by assumption) ?_
  rotate_left
  · (intro W hSw; (try dsimp only at hSw); go_simp) <;> with_reducible rfl
  try simp only [Act.put, List.getElem_toArray, List.getElem_cons_succ, List.getElem_cons_zero, List.setIfInBounds_toArray, List.set_cons_zero, List.set_cons_succ]
  refine wpAnyH_take (i := 2) (v := ?_) rfl (by kernel_rfl) (by kernel_rfl) (by kernel_rfl) (fun _ _ _ h => h) (Or.inl ⟨by rfl, ?_⟩) (by assumption) ?_
  rotate_left
  · (intro W hSw; (try dsimp only at hSw); go_simp) <;> with_reducible rfl
  try simp only [Act.put, List.getElem_toArray, List.getElem_cons_succ, List.getElem_cons_zero, List.setIfInBounds_toArray, List.set_cons_zero, List.set_cons_succ]
  refine wpAnyH_take (i := 3) (v := ?_) rfl (by kernel_rfl) (by kernel_rfl) (by kernel_rfl) (fun _ _ _ h => h) (Or.inl ⟨by rfl, ?_⟩) (by assumption) ?_
  rotate_left
  · (intro W hSw; (try dsimp only at hSw); go_simp) <;> with_reducible rfl
  try simp only [Act.put, List.getElem_toArray, List.getElem_cons_succ, List.getElem_cons_zero, List.setIfInBounds_toArray, List.set_cons_zero, List.set_cons_succ]
  refine wpAnyH_take (i := 4) (v := ?_) rfl (by kernel_rfl) (by kernel_rfl) (by kernel_rfl) (fun _ _ _ h => h) (Or.inl ⟨by rfl, ?_⟩) (by assumption) ?_
  rotate_left
  · (intro W hSw; (try dsimp only at hSw); go_simp) <;> with_reducible rfl
  try simp only [Act.put, List.getElem_toArray, List.getElem_cons_succ, List.getElem_cons_zero, List.setIfInBounds_toArray, List.set_cons_zero, List.set_cons_succ]
  refine wpAnyH_take (i := 5) (v := ?_) rfl (by kernel_rfl) (by kernel_rfl) (by kernel_rfl) (fun _ _ _ h => h) (Or.inl ⟨by rfl, ?_⟩) (by assumption) ?_
  rotate_left
  · (intro W hSw; (try dsimp only at hSw); go_simp) <;> with_reducible rfl
  try simp only [Act.put, List.getElem_toArray, List.getElem_cons_succ, List.getElem_cons_zero, List.setIfInBounds_toArray, List.set_cons_zero, List.set_cons_succ]
  refine wpAnyH_take (i := 6) (v := ?_) rfl (by kernel_rfl) (by kernel_rfl) (by kernel_rfl) (fun _ _ _ h => h) (Or.inl ⟨by rfl, ?_⟩) (by assumption) ?_
  rotate_left
  · (intro W hSw; (try dsimp only at hSw); go_simp) <;> with_reducible rfl
  try simp only [Act.put, List.getElem_toArray, List.getElem_cons_succ, List.getElem_cons_zero, List.setIfInBounds_toArray, List.set_cons_zero, List.set_cons_succ]
  refine wpAnyH_take (i := 7) (v := ?_) rfl (by kernel_rfl) (by kernel_rfl) (by kernel_rfl) (fun _ _ _ h => h) (Or.inl ⟨by rfl, ?_⟩) (by assumption) ?_
  rotate_left
  · (intro W hSw; (try dsimp only at hSw); go_simp) <;> with_reducible rfl
  try simp only [Act.put, List.getElem_toArray, List.getElem_cons_succ, List.getElem_cons_zero, List.setIfInBounds_toArray, List.set_cons_zero, List.set_cons_succ]
  refine wpAnyH_take (i := 8) (v := ?_) rfl (by kernel_rfl) (by kernel_rfl) (by kernel_rfl) (fun _ _ _ h => h) (Or.inl ⟨by rfl, ?_⟩) (by assumption) ?_
  rotate_left
  · (intro W hSw; (try dsimp only at hSw); go_simp) <;> with_reducible rfl
  try simp only [Act.put, List.getElem_toArray, List.getElem_cons_succ, List.getElem_cons_zero, List.setIfInBounds_toArray, List.set_cons_zero, List.set_cons_succ]
  refine wpAnyH_take (i := 10) (v := ?_) rfl (by kernel_rfl) (by kernel_rfl) (by kernel_rfl) (fun _ _ _ h => h) (Or.inl ⟨by rfl, ?_⟩) (by assumption) ?_
  rotate_left
  · (intro W hSw; (try dsimp only at hSw); go_simp) <;> with_reducible rfl
  try simp only [Act.put, List.getElem_toArray, List.getElem_cons_succ, List.getElem_cons_zero, List.setIfInBounds_toArray, List.set_cons_zero, List.set_cons_succ]
  refine wpAnyH_ready (rs := [9]) (by kernel_rfl) (by simp) ?_
  refine AllReadyH.cons (o := _) rfl (fun K hK => ?_) (AllReadyH.nil)
  go_simp
  first
      | (go_at_call_of 12 (Value.pointer (some ⟨B, 0, none⟩)); refine (wlenN (bs := bitsV v wd) (A := A3) (c := c3) (by (rename PartsS _ _ _ _ _ _ _ _ _ => hQ); exact hQ.1.wr) wd HL.out).mono ?_; rintro e w' ⟨rfl, rfl⟩)
      | (go_at_call_of 12 (Value.pointer (some ⟨q, 0, none⟩)); refine (wlenN (bs := bitsV v wd) (A := A5) (c := c5) (by (rename PartsS _ _ _ _ _ _ _ _ _ => hQ); exact hQ.2.1.wr) wd HL.out).mono ?_; rintro e w' ⟨rfl, rfl⟩)
      | (go_at_call_of 13 (Value.pointer (some ⟨B, 0, none⟩)); refine (bytesP (A := A3) (c := c3) (by (rename PartsS _ _ _ _ _ _ _ _ _ => hQ); exact hQ.1) m HM8.out st HST.out.symm).mono ?_; rintro e w6 ⟨g6, rfl, hg6, hs6, hb6⟩; (rename PartsS _ _ _ _ _ _ _ _ _ => hQ); have hQ6 := hQ.below hb6; clear hQ)
      | (go_at_call_of 13 (Value.pointer (some ⟨q, 0, none⟩)); refine (bytesP (A := A5) (c := c5) (by (rename PartsS _ _ _ _ _ _ _ _ _ => hQ); exact hQ.2.1) m HM8.out st HST.out.symm).mono ?_; rintro e w7 ⟨g7, rfl, hg7, hs7, hb7⟩; (rename PartsS _ _ _ _ _ _ _ _ _ => hQ); have hQ7 := hQ.below hb7; have hs67 := again hg6 hb7 m HM8.out st HST.out.symm; clear hQ)
      | (go_at_call 7; refine (wakes_call _).mono ?_; rintro e w8 ⟨rfl, hb8⟩; (rename PartsS _ _ _ _ _ _ _ _ _ => hQ); have hQ8 := hQ.below hb8; clear hQ)
  refine hK.out _ _ ?_ (fun hHeld => ?_)
  · assumption
  clear hK K
  try simp only [Act.put, List.getElem_toArray, List.getElem_cons_succ, List.getElem_cons_zero, List.setIfInBounds_toArray, List.set_cons_zero, List.set_cons_succ]
  refine wpAnyH_take (i := 11) (v := ?_) rfl (by kernel_rfl) (by kernel_rfl) (by kernel_rfl) (fun _ _ _ h => h) (Or.inl ⟨by rfl, ?_⟩) (by assumption) ?_
  rotate_left
  · (intro W hSw; (try dsimp only at hSw); go_simp) <;> with_reducible rfl
  try simp only [Act.put, List.getElem_toArray, List.getElem_cons_succ, List.getElem_cons_zero, List.setIfInBounds_toArray, List.set_cons_zero, List.set_cons_succ]
  refine wpAnyH_take (i := 12) (v := ?_) rfl (by kernel_rfl) (by kernel_rfl) (by kernel_rfl) (fun _ _ _ h => h) (Or.inl ⟨by rfl, ?_⟩) (by assumption) ?_
  rotate_left
  · (intro W hSw; (try dsimp only at hSw); go_simp) <;> with_reducible rfl
  try simp only [Act.put, List.getElem_toArray, List.getElem_cons_succ, List.getElem_cons_zero, List.setIfInBounds_toArray, List.set_cons_zero, List.set_cons_succ]
  refine wpAnyH_take (i := 13) (v := ?_) rfl (by kernel_rfl) (by kernel_rfl) (by kernel_rfl) (fun _ _ _ h => h) (Or.inl ⟨by rfl, ?_⟩) (by assumption) ?_
  rotate_left
  · (intro W hSw; (try dsimp only at hSw); go_simp) <;> with_reducible rfl
  try simp only [Act.put, List.getElem_toArray, List.getElem_cons_succ, List.getElem_cons_zero, List.setIfInBounds_toArray, List.set_cons_zero, List.set_cons_succ]
  refine wpAnyH_take (i := 14) (v := ?_) rfl (by kernel_rfl) (by kernel_rfl) (by kernel_rfl) (fun _ _ _ h => h) (Or.inl ⟨by rfl, ?_⟩) (by assumption) ?_
  rotate_left
  · (intro W hSw; (try dsimp only at hSw); go_simp) <;> with_reducible rfl
  try simp only [Act.put, List.getElem_toArray, List.getElem_cons_succ, List.getElem_cons_zero, List.setIfInBounds_toArray, List.set_cons_zero, List.set_cons_succ]
  refine wpAnyH_take (i := 16) (v := ?_) rfl (by kernel_rfl) (by kernel_rfl) (by kernel_rfl) (fun _ _ _ h => h) (Or.inl ⟨by rfl, ?_⟩) (by assumption) ?_
  rotate_left
  · (intro W hSw; (try dsimp only at hSw); go_simp) <;> with_reducible rfl
  try simp only [Act.put, List.getElem_toArray, List.getElem_cons_succ, List.getElem_cons_zero, List.setIfInBounds_toArray, List.set_cons_zero, List.set_cons_succ]
  refine wpAnyH_ready (rs := [15]) (by kernel_rfl) (by simp) ?_
  refine AllReadyH.cons (o := _) rfl (fun K hK => ?_) (AllReadyH.nil)
  go_simp
  first
      | (go_at_call_of 12 (Value.pointer (some ⟨B, 0, none⟩)); refine (wlenN (bs := bitsV v wd) (A := A3) (c := c3) (by (rename PartsS _ _ _ _ _ _ _ _ _ => hQ); exact hQ.1.wr) wd HL.out).mono ?_; rintro e w' ⟨rfl, rfl⟩)
      | (go_at_call_of 12 (Value.pointer (some ⟨q, 0, none⟩)); refine (wlenN (bs := bitsV v wd) (A := A5) (c := c5) (by (rename PartsS _ _ _ _ _ _ _ _ _ => hQ); exact hQ.2.1.wr) wd HL.out).mono ?_; rintro e w' ⟨rfl, rfl⟩)
      | (go_at_call_of 13 (Value.pointer (some ⟨B, 0, none⟩)); refine (bytesP (A := A3) (c := c3) (by (rename PartsS _ _ _ _ _ _ _ _ _ => hQ); exact hQ.1) m HM8.out st HST.out.symm).mono ?_; rintro e w6 ⟨g6, rfl, hg6, hs6, hb6⟩; (rename PartsS _ _ _ _ _ _ _ _ _ => hQ); have hQ6 := hQ.below hb6; clear hQ)
      | (go_at_call_of 13 (Value.pointer (some ⟨q, 0, none⟩)); refine (bytesP (A := A5) (c := c5) (by (rename PartsS _ _ _ _ _ _ _ _ _ => hQ); exact hQ.2.1) m HM8.out st HST.out.symm).mono ?_; rintro e w7 ⟨g7, rfl, hg7, hs7, hb7⟩; (rename PartsS _ _ _ _ _ _ _ _ _ => hQ); have hQ7 := hQ.below hb7; have hs67 := again hg6 hb7 m HM8.out st HST.out.symm; clear hQ)
      | (go_at_call 7; refine (wakes_call _).mono ?_; rintro e w8 ⟨rfl, hb8⟩; (rename PartsS _ _ _ _ _ _ _ _ _ => hQ); have hQ8 := hQ.below hb8; clear hQ)
  refine hK.out _ _ ?_ (fun hHeld => ?_)
  · assumption
  clear hK K
  try simp only [Act.put, List.getElem_toArray, List.getElem_cons_succ, List.getElem_cons_zero, List.setIfInBounds_toArray, List.set_cons_zero, List.set_cons_succ]
  refine wpAnyH_take (i := 17) (v := ?_) rfl (by kernel_rfl) (by kernel_rfl) (by kernel_rfl) (fun _ _ _ h => h) (Or.inl ⟨by rfl, ?_⟩) (by assumption) ?_
  rotate_left
  · (intro W hSw; (try dsimp only at hSw); go_simp) <;> with_reducible rfl
  try simp only [Act.put, List.getElem_toArray, List.getElem_cons_succ, List.getElem_cons_zero, List.setIfInBounds_toArray, List.set_cons_zero, List.set_cons_succ]
  refine wpAnyH_take (i := 18) (v := ?_) rfl (by kernel_rfl) (by kernel_rfl) (by kernel_rfl) (fun _ _ _ h => h) (Or.inl ⟨by rfl, ?_⟩) (by assumption) ?_
  rotate_left
  · (intro W hSw; (try dsimp only at hSw); go_simp) <;> with_reducible rfl
  try simp only [Act.put, List.getElem_toArray, List.getElem_cons_succ, List.getElem_cons_zero, List.setIfInBounds_toArray, List.set_cons_zero, List.set_cons_succ]
  refine wpAnyH_take (i := 19) (v := ?_) rfl (by kernel_rfl) (by kernel_rfl) (by kernel_rfl) (fun _ _ _ h => h) (Or.inl ⟨by rfl, ?_⟩) (by assumption) ?_
  rotate_left
  · (intro W hSw; (try dsimp only at hSw); go_simp) <;> with_reducible rfl
  try simp only [Act.put, List.getElem_toArray, List.getElem_cons_succ, List.getElem_cons_zero, List.setIfInBounds_toArray, List.set_cons_zero, List.set_cons_succ]
  refine wpAnyH_take (i := 20) (v := ?_) rfl (by kernel_rfl) (by kernel_rfl) (by kernel_rfl) (fun _ _ _ h => h) (Or.inl ⟨by rfl, ?_⟩) (by assumption) ?_
  rotate_left
  · (intro W hSw; (try dsimp only at hSw); go_simp) <;> with_reducible rfl
  try simp only [Act.put, List.getElem_toArray, List.getElem_cons_succ, List.getElem_cons_zero, List.setIfInBounds_toArray, List.set_cons_zero, List.set_cons_succ]
  refine wpAnyH_take (i := 23) (v := ?_) rfl (by kernel_rfl) (by kernel_rfl) (by kernel_rfl) (fun _ _ _ h => h) (Or.inl ⟨by rfl, ?_⟩) (by assumption) ?_
  rotate_left
  · (intro W hSw; (try dsimp only at hSw); go_simp) <;> with_reducible rfl
  try simp only [Act.put, List.getElem_toArray, List.getElem_cons_succ, List.getElem_cons_zero, List.setIfInBounds_toArray, List.set_cons_zero, List.set_cons_succ]
  refine wpAnyH_ready (rs := [21]) (by kernel_rfl) (by simp) ?_
  refine AllReadyH.cons (o := _) rfl (fun K hK => ?_) (AllReadyH.nil)
  go_simp
  first
      | (go_at_call_of 12 (Value.pointer (some ⟨B, 0, none⟩)); refine (wlenN (bs := bitsV v wd) (A := A3) (c := c3) (by (rename PartsS _ _ _ _ _ _ _ _ _ => hQ); exact hQ.1.wr) wd HL.out).mono ?_; rintro e w' ⟨rfl, rfl⟩)
      | (go_at_call_of 12 (Value.pointer (some ⟨q, 0, none⟩)); refine (wlenN (bs := bitsV v wd) (A := A5) (c := c5) (by (rename PartsS _ _ _ _ _ _ _ _ _ => hQ); exact hQ.2.1.wr) wd HL.out).mono ?_; rintro e w' ⟨rfl, rfl⟩)
      | (go_at_call_of 13 (Value.pointer (some ⟨B, 0, none⟩)); refine (bytesP (A := A3) (c := c3) (by (rename PartsS _ _ _ _ _ _ _ _ _ => hQ); exact hQ.1) m HM8.out st HST.out.symm).mono ?_; rintro e w6 ⟨g6, rfl, hg6, hs6, hb6⟩; (rename PartsS _ _ _ _ _ _ _ _ _ => hQ); have hQ6 := hQ.below hb6; clear hQ)
      | (go_at_call_of 13 (Value.pointer (some ⟨q, 0, none⟩)); refine (bytesP (A := A5) (c := c5) (by (rename PartsS _ _ _ _ _ _ _ _ _ => hQ); exact hQ.2.1) m HM8.out st HST.out.symm).mono ?_; rintro e w7 ⟨g7, rfl, hg7, hs7, hb7⟩; (rename PartsS _ _ _ _ _ _ _ _ _ => hQ); have hQ7 := hQ.below hb7; have hs67 := again hg6 hb7 m HM8.out st HST.out.symm; clear hQ)
      | (go_at_call 7; refine (wakes_call _).mono ?_; rintro e w8 ⟨rfl, hb8⟩; (rename PartsS _ _ _ _ _ _ _ _ _ => hQ); have hQ8 := hQ.below hb8; clear hQ)
  refine hK.out _ _ ?_ (fun hHeld => ?_)
  · assumption
  clear hK K
  try simp only [Act.put, List.getElem_toArray, List.getElem_cons_succ, List.getElem_cons_zero, List.setIfInBounds_toArray, List.set_cons_zero, List.set_cons_succ]
  refine wpAnyH_ready (rs := [22, 24]) (by kernel_rfl) (by simp) ?_
  refine AllReadyH.cons (o := _) rfl (fun K hK => ?_) (AllReadyH.cons (o := _) rfl (fun K hK => ?_) (AllReadyH.nil))
  · go_simp
    refine hK.out _ _ ?_ (fun hHeld => ?_)
    · assumption
    clear hK K
    try simp only [Act.put, List.getElem_toArray, List.getElem_cons_succ, List.getElem_cons_zero, List.setIfInBounds_toArray, List.set_cons_zero, List.set_cons_succ]
    refine wpAnyH_ready (rs := [24]) (by kernel_rfl) (by simp) ?_
    refine AllReadyH.cons (o := _) rfl (fun K hK => ?_) (AllReadyH.nil)
    go_simp
    first
        | (go_at_call_of 12 (Value.pointer (some ⟨B, 0, none⟩)); refine (wlenN (bs := bitsV v wd) (A := A3) (c := c3) (by (rename PartsS _ _ _ _ _ _ _ _ _ => hQ); exact hQ.1.wr) wd HL.out).mono ?_; rintro e w' ⟨rfl, rfl⟩)
        | (go_at_call_of 12 (Value.pointer (some ⟨q, 0, none⟩)); refine (wlenN (bs := bitsV v wd) (A := A5) (c := c5) (by (rename PartsS _ _ _ _ _ _ _ _ _ => hQ); exact hQ.2.1.wr) wd HL.out).mono ?_; rintro e w' ⟨rfl, rfl⟩)
        | (go_at_call_of 13 (Value.pointer (some ⟨B, 0, none⟩)); refine (bytesP (A := A3) (c := c3) (by (rename PartsS _ _ _ _ _ _ _ _ _ => hQ); exact hQ.1) m HM8.out st HST.out.symm).mono ?_; rintro e w6 ⟨g6, rfl, hg6, hs6, hb6⟩; (rename PartsS _ _ _ _ _ _ _ _ _ => hQ); have hQ6 := hQ.below hb6; clear hQ)
        | (go_at_call_of 13 (Value.pointer (some ⟨q, 0, none⟩)); refine (bytesP (A := A5) (c := c5) (by (rename PartsS _ _ _ _ _ _ _ _ _ => hQ); exact hQ.2.1) m HM8.out st HST.out.symm).mono ?_; rintro e w7 ⟨g7, rfl, hg7, hs7, hb7⟩; (rename PartsS _ _ _ _ _ _ _ _ _ => hQ); have hQ7 := hQ.below hb7; have hs67 := again hg6 hb7 m HM8.out st HST.out.symm; clear hQ)
        | (go_at_call 7; refine (wakes_call _).mono ?_; rintro e w8 ⟨rfl, hb8⟩; (rename PartsS _ _ _ _ _ _ _ _ _ => hQ); have hQ8 := hQ.below hb8; clear hQ)
    refine hK.out _ _ ?_ (fun hHeld => ?_)
    · assumption
    clear hK K
    try simp only [Act.put, List.getElem_toArray, List.getElem_cons_succ, List.getElem_cons_zero, List.setIfInBounds_toArray, List.set_cons_zero, List.set_cons_succ]
    refine wpAnyH_ready (rs := [25]) (by kernel_rfl) (by simp) ?_
    refine AllReadyH.cons (o := _) rfl (fun K hK => ?_) (AllReadyH.nil)
    go_simp
    refine hK.out _ _ ?_ (fun hHeld => ?_)
    · assumption
    clear hK K
    try simp only [Act.put, List.getElem_toArray, List.getElem_cons_succ, List.getElem_cons_zero, List.setIfInBounds_toArray, List.set_cons_zero, List.set_cons_succ]
    refine wpAnyH_take (i := 26) (v := ?_) rfl (by kernel_rfl) (by kernel_rfl) (by kernel_rfl) (fun _ _ _ h => h) (Or.inl ⟨by rfl, ?_⟩) (by assumption) ?_
    rotate_left
    · (intro W hSw; (try dsimp only at hSw); go_simp) <;> with_reducible rfl
    try simp only [Act.put, List.getElem_toArray, List.getElem_cons_succ, List.getElem_cons_zero, List.setIfInBounds_toArray, List.set_cons_zero, List.set_cons_succ]
    refine wpAnyH_take (i := 27) (v := ?_) rfl (by kernel_rfl) (by kernel_rfl) (by kernel_rfl) (fun _ _ _ h => h) (Or.inl ⟨by rfl, ?_⟩) (by assumption) ?_
    rotate_left
    · (intro W hSw; (try dsimp only at hSw); go_simp) <;> with_reducible rfl
    try simp only [Act.put, List.getElem_toArray, List.getElem_cons_succ, List.getElem_cons_zero, List.setIfInBounds_toArray, List.set_cons_zero, List.set_cons_succ]
    refine wpAnyH_take (i := 28) (v := ?_) rfl (by kernel_rfl) (by kernel_rfl) (by kernel_rfl) (fun _ _ _ h => h) (Or.inl ⟨by rfl, ?_⟩) (by assumption) ?_
    rotate_left
    · (intro W hSw; (try dsimp only at hSw); go_simp) <;> with_reducible rfl
    try simp only [Act.put, List.getElem_toArray, List.getElem_cons_succ, List.getElem_cons_zero, List.setIfInBounds_toArray, List.set_cons_zero, List.set_cons_succ]
    refine wpAnyH_ready (rs := [29]) (by kernel_rfl) (by simp) ?_
    refine AllReadyH.cons (o := _) rfl (fun K hK => ?_) (AllReadyH.nil)
    go_simp
    first
        | (go_at_call_of 12 (Value.pointer (some ⟨B, 0, none⟩)); refine (wlenN (bs := bitsV v wd) (A := A3) (c := c3) (by (rename PartsS _ _ _ _ _ _ _ _ _ => hQ); exact hQ.1.wr) wd HL.out).mono ?_; rintro e w' ⟨rfl, rfl⟩)
        | (go_at_call_of 12 (Value.pointer (some ⟨q, 0, none⟩)); refine (wlenN (bs := bitsV v wd) (A := A5) (c := c5) (by (rename PartsS _ _ _ _ _ _ _ _ _ => hQ); exact hQ.2.1.wr) wd HL.out).mono ?_; rintro e w' ⟨rfl, rfl⟩)
        | (go_at_call_of 13 (Value.pointer (some ⟨B, 0, none⟩)); refine (bytesP (A := A3) (c := c3) (by (rename PartsS _ _ _ _ _ _ _ _ _ => hQ); exact hQ.1) m HM8.out st HST.out.symm).mono ?_; rintro e w6 ⟨g6, rfl, hg6, hs6, hb6⟩; (rename PartsS _ _ _ _ _ _ _ _ _ => hQ); have hQ6 := hQ.below hb6; clear hQ)
        | (go_at_call_of 13 (Value.pointer (some ⟨q, 0, none⟩)); refine (bytesP (A := A5) (c := c5) (by (rename PartsS _ _ _ _ _ _ _ _ _ => hQ); exact hQ.2.1) m HM8.out st HST.out.symm).mono ?_; rintro e w7 ⟨g7, rfl, hg7, hs7, hb7⟩; (rename PartsS _ _ _ _ _ _ _ _ _ => hQ); have hQ7 := hQ.below hb7; have hs67 := again hg6 hb7 m HM8.out st HST.out.symm; clear hQ)
        | (go_at_call 7; refine (wakes_call _).mono ?_; rintro e w8 ⟨rfl, hb8⟩; (rename PartsS _ _ _ _ _ _ _ _ _ => hQ); have hQ8 := hQ.below hb8; clear hQ)
    refine hK.out _ _ ?_ (fun hHeld => ?_)
    · assumption
    clear hK K
    try simp only [Act.put, List.getElem_toArray, List.getElem_cons_succ, List.getElem_cons_zero, List.setIfInBounds_toArray, List.set_cons_zero, List.set_cons_succ]
    refine wpAnyH_take (i := 30) (v := ?_) rfl (by kernel_rfl) (by kernel_rfl) (by kernel_rfl) (fun _ _ _ h => h) (Or.inl ⟨by rfl, ?_⟩) (by assumption) ?_
    rotate_left
    · (intro W hSw; (try dsimp only at hSw); go_simp) <;> with_reducible rfl
    try simp only [Act.put, List.getElem_toArray, List.getElem_cons_succ, List.getElem_cons_zero, List.setIfInBounds_toArray, List.set_cons_zero, List.set_cons_succ]
    refine wpAnyH_take (i := 31) (v := ?_) rfl (by kernel_rfl) (by kernel_rfl) (by kernel_rfl) (fun _ _ _ h => h) (Or.inl ⟨by rfl, ?_⟩) (by assumption) ?_
    rotate_left
    · (intro W hSw; (try dsimp only at hSw); go_simp) <;> with_reducible rfl
    try simp only [Act.put, List.getElem_toArray, List.getElem_cons_succ, List.getElem_cons_zero, List.setIfInBounds_toArray, List.set_cons_zero, List.set_cons_succ]
    refine wpAnyH_done (by kernel_rfl) ?_ _
    refine NoPanic.normal ?_
    go_wp2
    go_ret
    exact ⟨rfl, hHeld.2.2.1⟩
  · go_simp
    first
        | (go_at_call_of 12 (Value.pointer (some ⟨B, 0, none⟩)); refine (wlenN (bs := bitsV v wd) (A := A3) (c := c3) (by (rename PartsS _ _ _ _ _ _ _ _ _ => hQ); exact hQ.1.wr) wd HL.out).mono ?_; rintro e w' ⟨rfl, rfl⟩)
        | (go_at_call_of 12 (Value.pointer (some ⟨q, 0, none⟩)); refine (wlenN (bs := bitsV v wd) (A := A5) (c := c5) (by (rename PartsS _ _ _ _ _ _ _ _ _ => hQ); exact hQ.2.1.wr) wd HL.out).mono ?_; rintro e w' ⟨rfl, rfl⟩)
        | (go_at_call_of 13 (Value.pointer (some ⟨B, 0, none⟩)); refine (bytesP (A := A3) (c := c3) (by (rename PartsS _ _ _ _ _ _ _ _ _ => hQ); exact hQ.1) m HM8.out st HST.out.symm).mono ?_; rintro e w6 ⟨g6, rfl, hg6, hs6, hb6⟩; (rename PartsS _ _ _ _ _ _ _ _ _ => hQ); have hQ6 := hQ.below hb6; clear hQ)
        | (go_at_call_of 13 (Value.pointer (some ⟨q, 0, none⟩)); refine (bytesP (A := A5) (c := c5) (by (rename PartsS _ _ _ _ _ _ _ _ _ => hQ); exact hQ.2.1) m HM8.out st HST.out.symm).mono ?_; rintro e w7 ⟨g7, rfl, hg7, hs7, hb7⟩; (rename PartsS _ _ _ _ _ _ _ _ _ => hQ); have hQ7 := hQ.below hb7; have hs67 := again hg6 hb7 m HM8.out st HST.out.symm; clear hQ)
        | (go_at_call 7; refine (wakes_call _).mono ?_; rintro e w8 ⟨rfl, hb8⟩; (rename PartsS _ _ _ _ _ _ _ _ _ => hQ); have hQ8 := hQ.below hb8; clear hQ)
    refine hK.out _ _ ?_ (fun hHeld => ?_)
    · assumption
    clear hK K
    try simp only [Act.put, List.getElem_toArray, List.getElem_cons_succ, List.getElem_cons_zero, List.setIfInBounds_toArray, List.set_cons_zero, List.set_cons_succ]
    refine wpAnyH_ready (rs := [22, 25]) (by kernel_rfl) (by simp) ?_
    refine AllReadyH.cons (o := _) rfl (fun K hK => ?_) (AllReadyH.cons (o := _) rfl (fun K hK => ?_) (AllReadyH.nil))
    · go_simp
      refine hK.out _ _ ?_ (fun hHeld => ?_)
      · assumption
      clear hK K
      try simp only [Act.put, List.getElem_toArray, List.getElem_cons_succ, List.getElem_cons_zero, List.setIfInBounds_toArray, List.set_cons_zero, List.set_cons_succ]
      refine wpAnyH_ready (rs := [25]) (by kernel_rfl) (by simp) ?_
      refine AllReadyH.cons (o := _) rfl (fun K hK => ?_) (AllReadyH.nil)
      go_simp
      refine hK.out _ _ ?_ (fun hHeld => ?_)
      · assumption
      clear hK K
      try simp only [Act.put, List.getElem_toArray, List.getElem_cons_succ, List.getElem_cons_zero, List.setIfInBounds_toArray, List.set_cons_zero, List.set_cons_succ]
      refine wpAnyH_take (i := 26) (v := ?_) rfl (by kernel_rfl) (by kernel_rfl) (by kernel_rfl) (fun _ _ _ h => h) (Or.inl ⟨by rfl, ?_⟩) (by assumption) ?_
      rotate_left
      · (intro W hSw; (try dsimp only at hSw); go_simp) <;> with_reducible rfl
      try simp only [Act.put, List.getElem_toArray, List.getElem_cons_succ, List.getElem_cons_zero, List.setIfInBounds_toArray, List.set_cons_zero, List.set_cons_succ]
      refine wpAnyH_take (i := 27) (v := ?_) rfl (by kernel_rfl) (by kernel_rfl) (by kernel_rfl) (fun _ _ _ h => h) (Or.inl ⟨by rfl, ?_⟩) (by assumption) ?_
      rotate_left
      · (intro W hSw; (try dsimp only at hSw); go_simp) <;> with_reducible rfl
      try simp only [Act.put, List.getElem_toArray, List.getElem_cons_succ, List.getElem_cons_zero, List.setIfInBounds_toArray, List.set_cons_zero, List.set_cons_succ]
      refine wpAnyH_take (i := 28) (v := ?_) rfl (by kernel_rfl) (by kernel_rfl) (by kernel_rfl) (fun _ _ _ h => h) (Or.inl ⟨by rfl, ?_⟩) (by assumption) ?_
      rotate_left
      · (intro W hSw; (try dsimp only at hSw); go_simp) <;> with_reducible rfl
      try simp only [Act.put, List.getElem_toArray, List.getElem_cons_succ, List.getElem_cons_zero, List.setIfInBounds_toArray, List.set_cons_zero, List.set_cons_succ]
      refine wpAnyH_ready (rs := [29]) (by kernel_rfl) (by simp) ?_
      refine AllReadyH.cons (o := _) rfl (fun K hK => ?_) (AllReadyH.nil)
      go_simp
      first
          | (go_at_call_of 12 (Value.pointer (some ⟨B, 0, none⟩)); refine (wlenN (bs := bitsV v wd) (A := A3) (c := c3) (by (rename PartsS _ _ _ _ _ _ _ _ _ => hQ); exact hQ.1.wr) wd HL.out).mono ?_; rintro e w' ⟨rfl, rfl⟩)
          | (go_at_call_of 12 (Value.pointer (some ⟨q, 0, none⟩)); refine (wlenN (bs := bitsV v wd) (A := A5) (c := c5) (by (rename PartsS _ _ _ _ _ _ _ _ _ => hQ); exact hQ.2.1.wr) wd HL.out).mono ?_; rintro e w' ⟨rfl, rfl⟩)
          | (go_at_call_of 13 (Value.pointer (some ⟨B, 0, none⟩)); refine (bytesP (A := A3) (c := c3) (by (rename PartsS _ _ _ _ _ _ _ _ _ => hQ); exact hQ.1) m HM8.out st HST.out.symm).mono ?_; rintro e w6 ⟨g6, rfl, hg6, hs6, hb6⟩; (rename PartsS _ _ _ _ _ _ _ _ _ => hQ); have hQ6 := hQ.below hb6; clear hQ)
          | (go_at_call_of 13 (Value.pointer (some ⟨q, 0, none⟩)); refine (bytesP (A := A5) (c := c5) (by (rename PartsS _ _ _ _ _ _ _ _ _ => hQ); exact hQ.2.1) m HM8.out st HST.out.symm).mono ?_; rintro e w7 ⟨g7, rfl, hg7, hs7, hb7⟩; (rename PartsS _ _ _ _ _ _ _ _ _ => hQ); have hQ7 := hQ.below hb7; have hs67 := again hg6 hb7 m HM8.out st HST.out.symm; clear hQ)
          | (go_at_call 7; refine (wakes_call _).mono ?_; rintro e w8 ⟨rfl, hb8⟩; (rename PartsS _ _ _ _ _ _ _ _ _ => hQ); have hQ8 := hQ.below hb8; clear hQ)
      refine hK.out _ _ ?_ (fun hHeld => ?_)
      · assumption
      clear hK K
      try simp only [Act.put, List.getElem_toArray, List.getElem_cons_succ, List.getElem_cons_zero, List.setIfInBounds_toArray, List.set_cons_zero, List.set_cons_succ]
      refine wpAnyH_take (i := 30) (v := ?_) rfl (by kernel_rfl) (by kernel_rfl) (by kernel_rfl) (fun _ _ _ h => h) (Or.inl ⟨by rfl, ?_⟩) (by assumption) ?_
      rotate_left
      · (intro W hSw; (try dsimp only at hSw); go_simp) <;> with_reducible rfl
      try simp only [Act.put, List.getElem_toArray, List.getElem_cons_succ, List.getElem_cons_zero, List.setIfInBounds_toArray, List.set_cons_zero, List.set_cons_succ]
      refine wpAnyH_take (i := 31) (v := ?_) rfl (by kernel_rfl) (by kernel_rfl) (by kernel_rfl) (fun _ _ _ h => h) (Or.inl ⟨by rfl, ?_⟩) (by assumption) ?_
      rotate_left
      · (intro W hSw; (try dsimp only at hSw); go_simp) <;> with_reducible rfl
      try simp only [Act.put, List.getElem_toArray, List.getElem_cons_succ, List.getElem_cons_zero, List.setIfInBounds_toArray, List.set_cons_zero, List.set_cons_succ]
      refine wpAnyH_done (by kernel_rfl) ?_ _
      refine NoPanic.normal ?_
      go_wp2
      go_ret
      exact ⟨rfl, hHeld.2.2.1⟩
    · go_simp
      refine hK.out _ _ ?_ (fun hHeld => ?_)
      · assumption
      clear hK K
      try simp only [Act.put, List.getElem_toArray, List.getElem_cons_succ, List.getElem_cons_zero, List.setIfInBounds_toArray, List.set_cons_zero, List.set_cons_succ]
      refine wpAnyH_ready (rs := [22]) (by kernel_rfl) (by simp) ?_
      refine AllReadyH.cons (o := _) rfl (fun K hK => ?_) (AllReadyH.nil)
      go_simp
      refine hK.out _ _ ?_ (fun hHeld => ?_)
      · assumption
      clear hK K
      try simp only [Act.put, List.getElem_toArray, List.getElem_cons_succ, List.getElem_cons_zero, List.setIfInBounds_toArray, List.set_cons_zero, List.set_cons_succ]
      refine wpAnyH_take (i := 26) (v := ?_) rfl (by kernel_rfl) (by kernel_rfl) (by kernel_rfl) (fun _ _ _ h => h) (Or.inl ⟨by rfl, ?_⟩) (by assumption) ?_
      rotate_left
      · (intro W hSw; (try dsimp only at hSw); go_simp) <;> with_reducible rfl
      try simp only [Act.put, List.getElem_toArray, List.getElem_cons_succ, List.getElem_cons_zero, List.setIfInBounds_toArray, List.set_cons_zero, List.set_cons_succ]
      refine wpAnyH_take (i := 27) (v := ?_) rfl (by kernel_rfl) (by kernel_rfl) (by kernel_rfl) (fun _ _ _ h => h) (Or.inl ⟨by rfl, ?_⟩) (by assumption) ?_
      rotate_left
      · (intro W hSw; (try dsimp only at hSw); go_simp) <;> with_reducible rfl
      try simp only [Act.put, List.getElem_toArray, List.getElem_cons_succ, List.getElem_cons_zero, List.setIfInBounds_toArray, List.set_cons_zero, List.set_cons_succ]
      refine wpAnyH_take (i := 28) (v := ?_) rfl (by kernel_rfl) (by kernel_rfl) (by kernel_rfl) (fun _ _ _ h => h) (Or.inl ⟨by rfl, ?_⟩) (by assumption) ?_
      rotate_left
      · (intro W hSw; (try dsimp only at hSw); go_simp) <;> with_reducible rfl
      try simp only [Act.put, List.getElem_toArray, List.getElem_cons_succ, List.getElem_cons_zero, List.setIfInBounds_toArray, List.set_cons_zero, List.set_cons_succ]
      refine wpAnyH_ready (rs := [29]) (by kernel_rfl) (by simp) ?_
      refine AllReadyH.cons (o := _) rfl (fun K hK => ?_) (AllReadyH.nil)
      go_simp
      first
          | (go_at_call_of 12 (Value.pointer (some ⟨B, 0, none⟩)); refine (wlenN (bs := bitsV v wd) (A := A3) (c := c3) (by (rename PartsS _ _ _ _ _ _ _ _ _ => hQ); exact hQ.1.wr) wd HL.out).mono ?_; rintro e w' ⟨rfl, rfl⟩)
          | (go_at_call_of 12 (Value.pointer (some ⟨q, 0, none⟩)); refine (wlenN (bs := bitsV v wd) (A := A5) (c := c5) (by (rename PartsS _ _ _ _ _ _ _ _ _ => hQ); exact hQ.2.1.wr) wd HL.out).mono ?_; rintro e w' ⟨rfl, rfl⟩)
          | (go_at_call_of 13 (Value.pointer (some ⟨B, 0, none⟩)); refine (bytesP (A := A3) (c := c3) (by (rename PartsS _ _ _ _ _ _ _ _ _ => hQ); exact hQ.1) m HM8.out st HST.out.symm).mono ?_; rintro e w6 ⟨g6, rfl, hg6, hs6, hb6⟩; (rename PartsS _ _ _ _ _ _ _ _ _ => hQ); have hQ6 := hQ.below hb6; clear hQ)
          | (go_at_call_of 13 (Value.pointer (some ⟨q, 0, none⟩)); refine (bytesP (A := A5) (c := c5) (by (rename PartsS _ _ _ _ _ _ _ _ _ => hQ); exact hQ.2.1) m HM8.out st HST.out.symm).mono ?_; rintro e w7 ⟨g7, rfl, hg7, hs7, hb7⟩; (rename PartsS _ _ _ _ _ _ _ _ _ => hQ); have hQ7 := hQ.below hb7; have hs67 := again hg6 hb7 m HM8.out st HST.out.symm; clear hQ)
          | (go_at_call 7; refine (wakes_call _).mono ?_; rintro e w8 ⟨rfl, hb8⟩; (rename PartsS _ _ _ _ _ _ _ _ _ => hQ); have hQ8 := hQ.below hb8; clear hQ)
      refine hK.out _ _ ?_ (fun hHeld => ?_)
      · assumption
      clear hK K
      try simp only [Act.put, List.getElem_toArray, List.getElem_cons_succ, List.getElem_cons_zero, List.setIfInBounds_toArray, List.set_cons_zero, List.set_cons_succ]
      refine wpAnyH_take (i := 30) (v := ?_) rfl (by kernel_rfl) (by kernel_rfl) (by kernel_rfl) (fun _ _ _ h => h) (Or.inl ⟨by rfl, ?_⟩) (by assumption) ?_
      rotate_left
      · (intro W hSw; (try dsimp only at hSw); go_simp) <;> with_reducible rfl
      try simp only [Act.put, List.getElem_toArray, List.getElem_cons_succ, List.getElem_cons_zero, List.setIfInBounds_toArray, List.set_cons_zero, List.set_cons_succ]
      refine wpAnyH_take (i := 31) (v := ?_) rfl (by kernel_rfl) (by kernel_rfl) (by kernel_rfl) (fun _ _ _ h => h) (Or.inl ⟨by rfl, ?_⟩) (by assumption) ?_
      rotate_left
      · (intro W hSw; (try dsimp only at hSw); go_simp) <;> with_reducible rfl
      try simp only [Act.put, List.getElem_toArray, List.getElem_cons_succ, List.getElem_cons_zero, List.setIfInBounds_toArray, List.set_cons_zero, List.set_cons_succ]
      refine wpAnyH_done (by kernel_rfl) ?_ _
      refine NoPanic.normal ?_
      go_wp2
      go_ret
      exact ⟨rfl, hHeld.2.2.1⟩

set_option maxRecDepth 100000 in
set_option maxHeartbeats 4000000 in
theorem parts_bad (v wd low : Int) (w : World) (hv : 0 ≤ v) (hv' : v ≤ 4294967295) (hf : ¬ (0 ≤ wd ∧ wd ≤ 32 ∧ v < ((2 ^ wd.toNat : Nat) : Int))) (b3 : Bool) (hb3 : b3 = decide (0 ≤ wd ∧ wd ≤ 32)) (hwl : -9223372036854775808 ≤ wd) (hwl' : wd ≤ 9223372036854775807) :
    Calls Try.prog 5 #[.int .u32 v, .int .i64 wd, .int .i64 low] w fun e w' => e = .returned (.bool true) ∧ Below w.heap.size w w' := by
  obtain ⟨B, hB⟩ : ∃ B, B = w.heap.size := ⟨_, rfl⟩
  rw [← hB]
  have hB' := Lib.hid hB
  have HF := Lib.hid hf
  clear hB hf
  go_enter Try.func5, Try.ntmps5
  go_wp2_with fail
  refine (newB B w (by rw [hB'.out]; exact Nat.le_refl _)).mono ?_
  rintro e w1 ⟨rfl, hw1, hb⟩
  rw [← hB'.out] at hw1 hb ⊢
  have b1 := Lib.hid hb
  clear hb
  go_wp2_with fail
  refine (wnew_call w1).mono ?_
  rintro e w2 ⟨rfl, hr2, hb⟩
  have hw2 := hw1.below hb
  have b2 := Lib.hid (b1.out.trans (hb.mono hw1.sz))
  clear hr2 hb hw1 b1
  go_wp2_with fail
  refine (put_no w2 B v wd hv hv' HF.out).mono ?_
  rintro e w3 ⟨rfl, hb⟩
  have hw3 := hw2.below hb
  have b3' := Lib.hid (b2.out.trans (hb.mono hw2.sz))
  clear hb hw2 b2
  go_upto_region 3 with fail
  go_cut [34] (fun s wx => s = .bool true ∧ wx = w3)
  case first =>
    by_cases h1 : wd < 0
    · have d1 : decide (wd < 0) = true := by simpa using h1
      go_wp2
      all_goals go_meet
      all_goals exact ⟨rfl, rfl⟩
    · have d1 : decide (wd < 0) = false := by simpa using h1
      by_cases h2 : 32 < wd
      · have d2 : decide (32 < wd) = true := by simpa using h2
        go_wp2
        all_goals go_meet
        all_goals exact ⟨rfl, rfl⟩
      · have d2 : decide (32 < wd) = false := by simpa using h2
        obtain ⟨n, rfl⟩ := Int.eq_ofNat_of_zero_le (show 0 ≤ wd by omega)
        have hn : n ≤ 32 := by omega
        have hf2 : ¬ v < ((2 ^ n : Nat) : Int) := fun e => HF.out ⟨by omega, by omega, by simpa using e⟩
        have hP2 : (2 ^ n : Nat) ≤ 2 ^ 32 := Nat.pow_le_pow_right (by omega) hn
        have hP : 0 < (2 ^ n : Nat) := Nat.two_pow_pos n
        have e1 : IntKind.u64.wrap (2 ^ n) = ((2 ^ n : Nat) : Int) := by
          rw [show (2 : Int) ^ n = ((2 ^ n : Nat) : Int) by simp]
          exact IntWalk.u64_in _ (by omega)
        have dv : decide (IntKind.u64.wrap (2 ^ n) ≤ v) = true := by rw [e1]; simp only [decide_eq_true_eq]; omega
        have dm : (0 : Int) ≤ (n : Int) := by omega
        clear e1 hf2 hP hP2 h1 h2
        go_wp2
        all_goals go_meet
        all_goals exact ⟨rfl, rfl⟩
  obtain ⟨rfl, rfl⟩ := hcut
  go_wp2_with fail
  refine (wlen_call hw3.wr).mono ?_
  rintro e w4 ⟨rfl, rfl⟩
  go_wp2_with fail
  refine (bytesB hw3 0 (by decide) [] (by decide)).mono ?_
  rintro e w5 ⟨g, rfl, hg, hs, hb⟩
  have hw5 := hw3.below hb
  have b5 := Lib.hid (b3'.out.trans (hb.mono hw3.sz))
  clear hb hw3 b3'
  go_wp2_with fail
  refine (wakes_call _).mono ?_
  rintro e w6 ⟨rfl, hb⟩
  have b6 := Lib.hid (b5.out.trans (hb.mono hw5.sz))
  clear hb
  go_wp2
  go_ret
  exact ⟨rfl, b6.out⟩

theorem parts_call (v wd low : Int) (w : World) (h0 : (Lit.int .u32 v).wf = true) (h1 : (Lit.int .i64 wd).wf = true) (h2 : (Lit.int .i64 low).wf = true) :
    Calls Try.prog 5 #[.int .u32 v, .int .i64 wd, .int .i64 low] w fun e w' => e = .returned (.bool true) ∧ Below w.heap.size w w' := by
  have b0 := bounds_u32 h0
  have b1 := bounds_i64 h1
  have b2 := bounds_i64 h2
  by_cases h : 0 ≤ wd ∧ wd ≤ 32 ∧ v < ((2 ^ wd.toNat : Nat) : Int)
  · obtain ⟨n, rfl⟩ := Int.eq_ofNat_of_zero_le h.1
    exact parts_good v n low w (by omega) (by omega) (by omega) (by simpa using h.2.2) (by omega) (by omega)
  · exact parts_bad v wd low w (by omega) (by omega) h _ rfl (by omega) (by omega)
end Go.Proofs.Ythofbdlnbfpfeaa
