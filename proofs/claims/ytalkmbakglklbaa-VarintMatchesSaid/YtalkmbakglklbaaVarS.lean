/- Package varint and its reference: Step. -/
import Derived.Test.YtalkmbakglklbaaVar
set_option linter.unusedVariables false
set_option linter.unusedSimpArgs false
namespace Go.Proofs.Ytalkmbakglklbaa
open Go.RowKit

theorem and128_u8 (c : Nat) (h : c < 256) : bits .and .u8 (c : Int) 128 = if c < 128 then 0 else 128 := by
  rw [show (128 : Int) = ((128 : Nat) : Int) from rfl, u8_and_nat c 128 h (by omega)]
  have : ∀ x : Fin 256, ((x.val &&& 128 : Nat) : Int) = if x.val < 128 then 0 else 128 := by decide +kernel
  exact this ⟨c, h⟩
theorem and127_u8 (c : Nat) (h : c < 256) : bits .and .u8 (c : Int) 127 = (c : Int) % 128 := by
  rw [show (c : Int) % 128 = ((c % 128 : Nat) : Int) by omega]
  rw [show (127 : Int) = ((127 : Nat) : Int) from rfl, u8_and_nat c 127 h (by omega), show (127 : Nat) = 2 ^ 7 - 1 from rfl, Nat.and_two_pow_sub_one_eq_mod]
theorem or128_u8 (c : Nat) (h : c < 256) : bits .or .u8 (c : Int) 128 = ((128 + c % 128 : Nat) : Int) := by
  rw [show (128 : Int) = ((128 : Nat) : Int) from rfl, u8_or_nat c 128 h (by omega)]
  have : ∀ x : Fin 256, x.val ||| 128 = 128 + x.val % 128 := by decide +kernel
  rw [this ⟨c, h⟩]
theorem or_u64 (V c : Nat) (hV : V < 268435456) : bits .or .u64 ((V : Int) * 128) ((c : Int) % 128) = (V : Int) * 128 + (c : Int) % 128 := by
  have : ∀ d : Nat, d < 128 → bits .or .u64 (((V * 128 : Nat)) : Int) (d : Int) = ((V * 128 + d : Nat) : Int) := fun d hc => by
    rw [u64_or_nat (V * 128) d (by omega) (by omega)]
    have h3 := Nat.two_pow_add_eq_or_of_lt (i := 7) (show d < 2 ^ 7 by omega) V
    rw [Nat.mul_comm V, show (128 : Nat) = 2 ^ 7 from rfl, ← h3]
  have h := this (c % 128) (by omega)
  rw [show (V : Int) * 128 = ((V * 128 : Nat) : Int) by omega, show (c : Int) % 128 = ((c % 128 : Nat) : Int) by omega, h]
  omega

/-- The results of Step. -/
def stepR (V M c : Int) : Value := .tuple #[.agg #[.int .i64 (stepV V M c), .int .i64 (stepM V M c)], .bool (stepD V M c), .int .i64 (stepE V M c)]

section
variable (V M : Int) (c : Nat)
theorem stepR_bad (h : ¬ okV V M) : stepR V M c = .tuple #[.agg #[.int .i64 0, .int .i64 0], .bool false, .int .i64 2] := by
  unfold stepR stepV stepM stepD stepE
  simp only [if_neg h]
theorem stepR_form (h : okV V M) (h1 : M = 0 ∧ (c : Int) = 128) : stepR V M c = .tuple #[.agg #[.int .i64 0, .int .i64 0], .bool false, .int .i64 51] := by
  unfold stepR stepV stepM stepD stepE
  simp only [if_pos h, if_pos h1]
theorem stepR_great (h : okV V M) (h1 : ¬ (M = 0 ∧ (c : Int) = 128)) (h2 : 2147483647 < V * 128 + (c : Int) % 128 ∨ (M = 4 ∧ 128 ≤ (c : Int))) : stepR V M c = .tuple #[.agg #[.int .i64 0, .int .i64 0], .bool false, .int .i64 52] := by
  unfold stepR stepV stepM stepD stepE
  simp only [if_pos h, if_neg h1, if_pos h2]
theorem stepR_ok (h : okV V M) (h1 : ¬ (M = 0 ∧ (c : Int) = 128)) (h2 : ¬ (2147483647 < V * 128 + (c : Int) % 128 ∨ (M = 4 ∧ 128 ≤ (c : Int)))) : stepR V M c = .tuple #[.agg #[.int .i64 (V * 128 + (c : Int) % 128), .int .i64 (M + 1)], .bool (decide ((c : Int) < 128)), .int .i64 0] := by
  unfold stepR stepV stepM stepD stepE
  simp only [if_pos h, if_neg h1, if_neg h2]
end

/-- A number in progress in memory. -/
def TwoI (w : World) (g : Nat) (a b : Int) : Prop := ∃ t, w.heap[g]? = some (.cells #[.int .i64 a, .int .i64 b] t (0, 0))
theorem TwoI.on {w w' : World} {g : Nat} {a b : Int} (h : TwoI w g a b) (hb : Below w.heap.size w w') : TwoI w' g a b := h.elim fun t h => ⟨t, heap_on hb h⟩
theorem TwoI.c0 {w : World} {g : Nat} {a b : Int} (h : TwoI w g a b) : w.cell? ⟨g, 0, none⟩ = some (.int .i64 a) := by
  obtain ⟨t, h⟩ := h
  simp [World.cell?, h]
theorem TwoI.c1 {w : World} {g : Nat} {a b : Int} (h : TwoI w g a b) : w.cell? ⟨g, 1, none⟩ = some (.int .i64 b) := by
  obtain ⟨t, h⟩ := h
  simp [World.cell?, h]
theorem TwoI.f {w : World} {g : Nat} {a b : Int} (h : TwoI w g a b) (i : Nat) : w.frozen? ⟨g, i, none⟩ = false := by
  obtain ⟨t, h⟩ := h
  simp [World.frozen?, h]

theorem TwoI.boxes (w : World) (V M : Int) (t : TypeId) {w1 : World} (hb : Below ((w.alloc (.cells #[.int .i64 V, .int .i64 M] t)).alloc (.cells #[.int .i64 0, .int .i64 0] t)).heap.size ((w.alloc (.cells #[.int .i64 V, .int .i64 M] t)).alloc (.cells #[.int .i64 0, .int .i64 0] t)) w1) :
    TwoI w1 w.heap.size V M ∧ TwoI w1 (w.heap.size + 1) 0 0 ∧ Below w.heap.size w w1 := by
  have h1 : TwoI ((w.alloc (.cells #[.int .i64 V, .int .i64 M] t)).alloc (.cells #[.int .i64 0, .int .i64 0] t)) w.heap.size V M := ⟨t, heap_alloc2_old w _ _⟩
  have h2 : TwoI ((w.alloc (.cells #[.int .i64 V, .int .i64 M] t)).alloc (.cells #[.int .i64 0, .int .i64 0] t)) (w.heap.size + 1) 0 0 := ⟨t, heap_alloc2_new w _ _⟩
  exact ⟨h1.on hb, h2.on hb, (((Below.refl _ w).alloc (Nat.le_refl _) _).alloc (by simp) _).trans (hb.mono (by simp; omega))⟩
theorem TwoI.set0 {w : World} {g : Nat} {a b : Int} (h : TwoI w g a b) (x : Int) : TwoI (w.setCell ⟨g, 0, none⟩ (.int .i64 x)) g x b := by
  obtain ⟨t, h⟩ := h
  exact ⟨t, by simp [World.setCell, Array.getElem?_modify, h]⟩
theorem TwoI.set1 {w : World} {g : Nat} {a b : Int} (h : TwoI w g a b) (x : Int) : TwoI (w.setCell ⟨g, 1, none⟩ (.int .i64 x)) g a x := by
  obtain ⟨t, h⟩ := h
  exact ⟨t, by simp [World.setCell, Array.getElem?_modify, h]⟩
theorem TwoI.set {w : World} {g : Nat} {a b : Int} (h : TwoI w g a b) (x y : Int) : TwoI ((w.setCell ⟨g, 0, none⟩ (.int .i64 x)).setCell ⟨g, 1, none⟩ (.int .i64 y)) g x y := (h.set0 x).set1 y

set_option maxHeartbeats 1000000 in
set_option maxHeartbeats 1000000 in
set_option maxRecDepth 100000 in
set_option maxHeartbeats 1000000 in
set_option maxRecDepth 100000 in
set_option maxHeartbeats 1000000 in
theorem step_bad (V M : Int) (c : Nat) (hc : c < 256) (h : ¬ okV V M) (w : World) :
    Calls Try.prog 13 #[.agg #[.int .i64 V, .int .i64 M], .int .u8 c] w fun e w' => e = .returned (stepR V M c) ∧ Below w.heap.size w w' := by
  rw [stepR_bad V M c h]

  go_enter Try.func13, Try.ntmps13
  go_wp2_with fail
  refine (valid_call V M _).mono ?_
  rintro e w1 ⟨rfl, hb⟩
  obtain ⟨hv, ho, hbw⟩ := TwoI.boxes w V M _ hb
  rw [decide_eq_false h]
  have HB := Lib.hid hbw
  have HO := Lib.hid (ho.set (0) (0))
  have v0 := hv.c0
  have v1 := hv.c1
  have c0 := ho.c0
  have c1 := (ho.set0 (0)).c1
  have f0 := ho.f 0
  have f1 := (ho.set0 (0)).f 1
  clear hb hbw ho hv
  go_wp2_with fail
  have r0 := HO.out.c0
  have r1 := HO.out.c1
  go_wp2_with fail
  exact bodyPost_ret (v := .tuple #[.agg #[.int .i64 (0), .int .i64 (0)], .bool false, .int .i64 2]) (by simp [results, Try.results13, go_sem, r0, r1]) rfl ⟨rfl, ((HB.out.setCell (Nat.le_succ _) _).setCell (Nat.le_succ _) _)⟩
set_option maxRecDepth 100000 in
set_option maxHeartbeats 1000000 in
theorem rstep_bad (V M : Int) (c : Nat) (hc : c < 256) (h : ¬ okV V M) (w : World) :
    Calls Try.prog 14 #[.agg #[.int .i64 V, .int .i64 M], .int .u8 c] w fun e w' => e = .returned (stepR V M c) ∧ Below w.heap.size w w' := by
  rw [stepR_bad V M c h]

  go_enter Try.func14, Try.ntmps14
  go_wp2_with fail
  refine (rvalid_call V M _).mono ?_
  rintro e w1 ⟨rfl, hb⟩
  obtain ⟨hv, ho, hbw⟩ := TwoI.boxes w V M _ hb
  rw [decide_eq_false h]
  have HB := Lib.hid hbw
  have HO := Lib.hid (ho.set (0) (0))
  have v0 := hv.c0
  have v1 := hv.c1
  have c0 := ho.c0
  have c1 := (ho.set0 (0)).c1
  have f0 := ho.f 0
  have f1 := (ho.set0 (0)).f 1
  clear hb hbw ho hv
  go_wp2_with fail
  have r0 := HO.out.c0
  have r1 := HO.out.c1
  go_wp2_with fail
  exact bodyPost_ret (v := .tuple #[.agg #[.int .i64 (0), .int .i64 (0)], .bool false, .int .i64 2]) (by simp [results, Try.results14, go_sem, r0, r1]) rfl ⟨rfl, ((HB.out.setCell (Nat.le_succ _) _).setCell (Nat.le_succ _) _)⟩
set_option maxRecDepth 100000 in
set_option maxHeartbeats 1000000 in
theorem step_form (V M : Int) (c : Nat) (hc : c < 256) (h : okV V M) (h1 : M = 0 ∧ (c : Int) = 128) (w : World) :
    Calls Try.prog 13 #[.agg #[.int .i64 V, .int .i64 M], .int .u8 c] w fun e w' => e = .returned (stepR V M c) ∧ Below w.heap.size w w' := by
  rw [stepR_form V M c h h1]
  obtain ⟨rfl, hc8⟩ := h1
  obtain rfl : V = 0 := by unfold okV at h; omega
  obtain rfl : c = 128 := by omega
  go_enter Try.func13, Try.ntmps13
  go_wp2_with fail
  refine (valid_call _ _ _).mono ?_
  rintro e w1 ⟨rfl, hb⟩
  obtain ⟨hv, ho, hbw⟩ := TwoI.boxes w _ _ _ hb
  rw [decide_eq_true h]
  have HB := Lib.hid hbw
  have HO := Lib.hid (ho.set (0) (0))
  have v0 := hv.c0
  have v1 := hv.c1
  have c0 := ho.c0
  have c1 := (ho.set0 (0)).c1
  have f0 := ho.f 0
  have f1 := (ho.set0 (0)).f 1
  clear hb hbw ho hv h
  go_wp2_with fail
  all_goals
    have r0 := HO.out.c0
    have r1 := HO.out.c1
    go_wp2_with fail
  all_goals
    exact bodyPost_ret (v := .tuple #[.agg #[.int .i64 (0), .int .i64 (0)], .bool false, .int .i64 51]) (by simp [results, Try.results13, go_sem, r0, r1]) rfl ⟨rfl, ((HB.out.setCell (Nat.le_succ _) _).setCell (Nat.le_succ _) _)⟩
set_option maxRecDepth 100000 in
set_option maxHeartbeats 1000000 in
theorem step_great1 (V M : Int) (c : Nat) (hc : c < 256) (h : okV V M) (h2 : 2147483647 < V * 128 + (c : Int) % 128) (w : World) :
    Calls Try.prog 13 #[.agg #[.int .i64 V, .int .i64 M], .int .u8 c] w fun e w' => e = .returned (stepR V M c) ∧ Below w.heap.size w w' := by
  rw [stepR_great V M c h (by unfold okV at h; omega) (.inl h2)]
  have hV : ∃ v : Nat, V = v ∧ v < 268435456 := ⟨V.toNat, by unfold okV at h; omega, by unfold okV at h; omega⟩
  obtain ⟨v, rfl, hv28⟩ := hV
  have e127 := and127_u8 c hc
  have eor := or_u64 v c hv28
  have wv : IntKind.u64.wrap ((v : Int) * 128) = (v : Int) * 128 := by rw [IntKind.wrap_u64]; omega
  have w1' : IntKind.i64.wrap ((v : Int) * 128) = (v : Int) * 128 := IntWalk.i64_in _ (by omega)
  have w2' : IntKind.i64.wrap ((v : Int) * 128 + (c : Int) % 128) = (v : Int) * 128 + (c : Int) % 128 := IntWalk.i64_in _ (by omega)
  have d0 : (M == 0) = false := by simp; unfold okV at h; omega
  have dg := decide_eq_true h2
  go_enter Try.func13, Try.ntmps13
  go_wp2_with fail
  refine (valid_call _ _ _).mono ?_
  rintro e w1 ⟨rfl, hb⟩
  obtain ⟨hv, ho, hbw⟩ := TwoI.boxes w _ _ _ hb
  rw [decide_eq_true h]
  have HB := Lib.hid hbw
  have HO := Lib.hid (ho.set (0) (0))
  have v0 := hv.c0
  have v1 := hv.c1
  have c0 := ho.c0
  have c1 := (ho.set0 (0)).c1
  have f0 := ho.f 0
  have f1 := (ho.set0 (0)).f 1
  clear hb hbw ho hv h
  go_wp2_with fail
  all_goals
    have r0 := HO.out.c0
    have r1 := HO.out.c1
    go_wp2_with fail
  all_goals
    exact bodyPost_ret (v := .tuple #[.agg #[.int .i64 (0), .int .i64 (0)], .bool false, .int .i64 52]) (by simp [results, Try.results13, go_sem, r0, r1]) rfl ⟨rfl, ((HB.out.setCell (Nat.le_succ _) _).setCell (Nat.le_succ _) _)⟩
set_option maxRecDepth 100000 in
set_option maxHeartbeats 1000000 in
theorem step_great2 (V M : Int) (c : Nat) (hc : c < 256) (h : okV V M) (h2 : ¬ 2147483647 < V * 128 + (c : Int) % 128) (h3 : M = 4 ∧ 128 ≤ (c : Int)) (w : World) :
    Calls Try.prog 13 #[.agg #[.int .i64 V, .int .i64 M], .int .u8 c] w fun e w' => e = .returned (stepR V M c) ∧ Below w.heap.size w w' := by
  rw [stepR_great V M c h (by omega) (.inr h3)]
  have hV : ∃ v : Nat, V = v ∧ v < 268435456 := ⟨V.toNat, by unfold okV at h; omega, by unfold okV at h; omega⟩
  obtain ⟨v, rfl, hv28⟩ := hV
  have e127 := and127_u8 c hc
  have eor := or_u64 v c hv28
  have wv : IntKind.u64.wrap ((v : Int) * 128) = (v : Int) * 128 := by rw [IntKind.wrap_u64]; omega
  have w1' : IntKind.i64.wrap ((v : Int) * 128) = (v : Int) * 128 := IntWalk.i64_in _ (by omega)
  have w2' : IntKind.i64.wrap ((v : Int) * 128 + (c : Int) % 128) = (v : Int) * 128 + (c : Int) % 128 := IntWalk.i64_in _ (by omega)
  obtain ⟨rfl, h3⟩ := h3
  have dg := decide_eq_false h2
  have dd := decide_eq_true h3
  have e128 := and128_u8 c hc
  rw [if_neg (by omega)] at e128
  go_enter Try.func13, Try.ntmps13
  go_wp2_with fail
  refine (valid_call _ _ _).mono ?_
  rintro e w1 ⟨rfl, hb⟩
  obtain ⟨hv, ho, hbw⟩ := TwoI.boxes w _ _ _ hb
  rw [decide_eq_true h]
  have HB := Lib.hid hbw
  have HO := Lib.hid (ho.set (0) (0))
  have v0 := hv.c0
  have v1 := hv.c1
  have c0 := ho.c0
  have c1 := (ho.set0 (0)).c1
  have f0 := ho.f 0
  have f1 := (ho.set0 (0)).f 1
  clear hb hbw ho hv h
  go_wp2_with fail
  all_goals
    have r0 := HO.out.c0
    have r1 := HO.out.c1
    go_wp2_with fail
  all_goals
    exact bodyPost_ret (v := .tuple #[.agg #[.int .i64 (0), .int .i64 (0)], .bool false, .int .i64 52]) (by simp [results, Try.results13, go_sem, r0, r1]) rfl ⟨rfl, ((HB.out.setCell (Nat.le_succ _) _).setCell (Nat.le_succ _) _)⟩
set_option maxRecDepth 100000 in
set_option maxHeartbeats 1000000 in
theorem step_done (V M : Int) (c : Nat) (hc : c < 256) (h : okV V M) (h1 : ¬ (M = 0 ∧ (c : Int) = 128)) (h2 : ¬ 2147483647 < V * 128 + (c : Int) % 128) (h3 : (c : Int) < 128) (w : World) :
    Calls Try.prog 13 #[.agg #[.int .i64 V, .int .i64 M], .int .u8 c] w fun e w' => e = .returned (stepR V M c) ∧ Below w.heap.size w w' := by
  rw [stepR_ok V M c h h1 (by omega)]
  have hV : ∃ v : Nat, V = v ∧ v < 268435456 := ⟨V.toNat, by unfold okV at h; omega, by unfold okV at h; omega⟩
  obtain ⟨v, rfl, hv28⟩ := hV
  have e127 := and127_u8 c hc
  have eor := or_u64 v c hv28
  have wv : IntKind.u64.wrap ((v : Int) * 128) = (v : Int) * 128 := by rw [IntKind.wrap_u64]; omega
  have w1' : IntKind.i64.wrap ((v : Int) * 128) = (v : Int) * 128 := IntWalk.i64_in _ (by omega)
  have w2' : IntKind.i64.wrap ((v : Int) * 128 + (c : Int) % 128) = (v : Int) * 128 + (c : Int) % 128 := IntWalk.i64_in _ (by omega)
  have hM : 0 ≤ M ∧ M ≤ 4 := by unfold okV at h; omega
  have dg := decide_eq_false h2
  have dc := decide_eq_true h3
  have dd : decide (128 ≤ (c : Int)) = false := by simp; omega
  have d8 : ((c : Int) == 128) = false := by simp; omega
  have e128 := and128_u8 c hc
  rw [if_pos (by omega)] at e128
  rw [dc]
  clear h1
  have hs : M = 0 ∨ M = 4 ∨ ((M == 0) = false ∧ (M == 4) = false ∧ IntKind.i64.wrap (M + 1) = M + 1) := by
    by_cases q0 : M = 0
    · exact .inl q0
    · by_cases q4 : M = 4
      · exact .inr (.inl q4)
      · exact .inr (.inr ⟨by simp [q0], by simp [q4], IntWalk.i64_in _ (by omega)⟩)
  clear hM
  rcases hs with rfl | rfl | ⟨d0, d4, wm⟩
  · skip
    go_enter Try.func13, Try.ntmps13
    go_wp2_with fail
    refine (valid_call _ _ _).mono ?_
    rintro e w1 ⟨rfl, hb⟩
    obtain ⟨hv, ho, hbw⟩ := TwoI.boxes w _ _ _ hb
    rw [decide_eq_true h]
    have HB := Lib.hid hbw
    have HO := Lib.hid (ho.set ((v : Int) * 128 + (c : Int) % 128) (1))
    have v0 := hv.c0
    have v1 := hv.c1
    have c0 := ho.c0
    have c1 := (ho.set0 ((v : Int) * 128 + (c : Int) % 128)).c1
    have f0 := ho.f 0
    have f1 := (ho.set0 ((v : Int) * 128 + (c : Int) % 128)).f 1
    clear hb hbw ho hv h
    go_wp2_with fail
    all_goals
      have r0 := HO.out.c0
      have r1 := HO.out.c1
      go_wp2_with fail
    all_goals
      exact bodyPost_ret (v := .tuple #[.agg #[.int .i64 ((v : Int) * 128 + (c : Int) % 128), .int .i64 (1)], .bool true, .int .i64 0]) (by simp [results, Try.results13, go_sem, r0, r1]) rfl ⟨rfl, ((HB.out.setCell (Nat.le_succ _) _).setCell (Nat.le_succ _) _)⟩
  · skip
    go_enter Try.func13, Try.ntmps13
    go_wp2_with fail
    refine (valid_call _ _ _).mono ?_
    rintro e w1 ⟨rfl, hb⟩
    obtain ⟨hv, ho, hbw⟩ := TwoI.boxes w _ _ _ hb
    rw [decide_eq_true h]
    have HB := Lib.hid hbw
    have HO := Lib.hid (ho.set ((v : Int) * 128 + (c : Int) % 128) (5))
    have v0 := hv.c0
    have v1 := hv.c1
    have c0 := ho.c0
    have c1 := (ho.set0 ((v : Int) * 128 + (c : Int) % 128)).c1
    have f0 := ho.f 0
    have f1 := (ho.set0 ((v : Int) * 128 + (c : Int) % 128)).f 1
    clear hb hbw ho hv h
    go_wp2_with fail
    all_goals
      have r0 := HO.out.c0
      have r1 := HO.out.c1
      go_wp2_with fail
    all_goals
      exact bodyPost_ret (v := .tuple #[.agg #[.int .i64 ((v : Int) * 128 + (c : Int) % 128), .int .i64 (5)], .bool true, .int .i64 0]) (by simp [results, Try.results13, go_sem, r0, r1]) rfl ⟨rfl, ((HB.out.setCell (Nat.le_succ _) _).setCell (Nat.le_succ _) _)⟩
  · skip
    go_enter Try.func13, Try.ntmps13
    go_wp2_with fail
    refine (valid_call _ _ _).mono ?_
    rintro e w1 ⟨rfl, hb⟩
    obtain ⟨hv, ho, hbw⟩ := TwoI.boxes w _ _ _ hb
    rw [decide_eq_true h]
    have HB := Lib.hid hbw
    have HO := Lib.hid (ho.set ((v : Int) * 128 + (c : Int) % 128) (M + 1))
    have v0 := hv.c0
    have v1 := hv.c1
    have c0 := ho.c0
    have c1 := (ho.set0 ((v : Int) * 128 + (c : Int) % 128)).c1
    have f0 := ho.f 0
    have f1 := (ho.set0 ((v : Int) * 128 + (c : Int) % 128)).f 1
    clear hb hbw ho hv h
    go_wp2_with fail
    all_goals
      have r0 := HO.out.c0
      have r1 := HO.out.c1
      go_wp2_with fail
    all_goals
      exact bodyPost_ret (v := .tuple #[.agg #[.int .i64 ((v : Int) * 128 + (c : Int) % 128), .int .i64 (M + 1)], .bool true, .int .i64 0]) (by simp [results, Try.results13, go_sem, r0, r1]) rfl ⟨rfl, ((HB.out.setCell (Nat.le_succ _) _).setCell (Nat.le_succ _) _)⟩
set_option maxRecDepth 100000 in
set_option maxHeartbeats 1000000 in
theorem step_more (V M : Int) (c : Nat) (hc : c < 256) (h : okV V M) (h1 : ¬ (M = 0 ∧ (c : Int) = 128)) (h2 : ¬ 2147483647 < V * 128 + (c : Int) % 128) (h3 : 128 ≤ (c : Int)) (h4 : M ≠ 4) (w : World) :
    Calls Try.prog 13 #[.agg #[.int .i64 V, .int .i64 M], .int .u8 c] w fun e w' => e = .returned (stepR V M c) ∧ Below w.heap.size w w' := by
  rw [stepR_ok V M c h h1 (by omega)]
  have hV : ∃ v : Nat, V = v ∧ v < 268435456 := ⟨V.toNat, by unfold okV at h; omega, by unfold okV at h; omega⟩
  obtain ⟨v, rfl, hv28⟩ := hV
  have e127 := and127_u8 c hc
  have eor := or_u64 v c hv28
  have wv : IntKind.u64.wrap ((v : Int) * 128) = (v : Int) * 128 := by rw [IntKind.wrap_u64]; omega
  have w1' : IntKind.i64.wrap ((v : Int) * 128) = (v : Int) * 128 := IntWalk.i64_in _ (by omega)
  have w2' : IntKind.i64.wrap ((v : Int) * 128 + (c : Int) % 128) = (v : Int) * 128 + (c : Int) % 128 := IntWalk.i64_in _ (by omega)
  have hM : 0 ≤ M ∧ M ≤ 4 := by unfold okV at h; omega
  have dg := decide_eq_false h2
  have dc : decide ((c : Int) < 128) = false := by simp; omega
  have dd := decide_eq_true h3
  have e128 := and128_u8 c hc
  rw [if_neg (by omega)] at e128
  rw [dc]
  have hs : (M = 0 ∧ c ≠ 128) ∨ ((M == 0) = false ∧ (M == 4) = false ∧ IntKind.i64.wrap (M + 1) = M + 1) := by
    by_cases q0 : M = 0
    · exact .inl ⟨q0, by omega⟩
    · exact .inr ⟨by simp [q0], by simp [h4], IntWalk.i64_in _ (by omega)⟩
  clear hM h4 h1
  rcases hs with ⟨rfl, h8⟩ | ⟨d0, d4, wm⟩
  · have d8 : ((c : Int) == 128) = false := by simp; omega
    go_enter Try.func13, Try.ntmps13
    go_wp2_with fail
    refine (valid_call _ _ _).mono ?_
    rintro e w1 ⟨rfl, hb⟩
    obtain ⟨hv, ho, hbw⟩ := TwoI.boxes w _ _ _ hb
    rw [decide_eq_true h]
    have HB := Lib.hid hbw
    have HO := Lib.hid (ho.set ((v : Int) * 128 + (c : Int) % 128) (1))
    have v0 := hv.c0
    have v1 := hv.c1
    have c0 := ho.c0
    have c1 := (ho.set0 ((v : Int) * 128 + (c : Int) % 128)).c1
    have f0 := ho.f 0
    have f1 := (ho.set0 ((v : Int) * 128 + (c : Int) % 128)).f 1
    clear hb hbw ho hv h
    go_wp2_with fail
    all_goals
      have r0 := HO.out.c0
      have r1 := HO.out.c1
      go_wp2_with fail
    all_goals
      exact bodyPost_ret (v := .tuple #[.agg #[.int .i64 ((v : Int) * 128 + (c : Int) % 128), .int .i64 (1)], .bool false, .int .i64 0]) (by simp [results, Try.results13, go_sem, r0, r1]) rfl ⟨rfl, ((HB.out.setCell (Nat.le_succ _) _).setCell (Nat.le_succ _) _)⟩
  · skip
    go_enter Try.func13, Try.ntmps13
    go_wp2_with fail
    refine (valid_call _ _ _).mono ?_
    rintro e w1 ⟨rfl, hb⟩
    obtain ⟨hv, ho, hbw⟩ := TwoI.boxes w _ _ _ hb
    rw [decide_eq_true h]
    have HB := Lib.hid hbw
    have HO := Lib.hid (ho.set ((v : Int) * 128 + (c : Int) % 128) (M + 1))
    have v0 := hv.c0
    have v1 := hv.c1
    have c0 := ho.c0
    have c1 := (ho.set0 ((v : Int) * 128 + (c : Int) % 128)).c1
    have f0 := ho.f 0
    have f1 := (ho.set0 ((v : Int) * 128 + (c : Int) % 128)).f 1
    clear hb hbw ho hv h
    go_wp2_with fail
    all_goals
      have r0 := HO.out.c0
      have r1 := HO.out.c1
      go_wp2_with fail
    all_goals
      exact bodyPost_ret (v := .tuple #[.agg #[.int .i64 ((v : Int) * 128 + (c : Int) % 128), .int .i64 (M + 1)], .bool false, .int .i64 0]) (by simp [results, Try.results13, go_sem, r0, r1]) rfl ⟨rfl, ((HB.out.setCell (Nat.le_succ _) _).setCell (Nat.le_succ _) _)⟩
set_option maxRecDepth 100000 in
set_option maxHeartbeats 1000000 in
theorem rstep_form (V M : Int) (c : Nat) (hc : c < 256) (h : okV V M) (h1 : M = 0 ∧ (c : Int) = 128) (w : World) :
    Calls Try.prog 14 #[.agg #[.int .i64 V, .int .i64 M], .int .u8 c] w fun e w' => e = .returned (stepR V M c) ∧ Below w.heap.size w w' := by
  rw [stepR_form V M c h h1]
  obtain ⟨rfl, hc8⟩ := h1
  obtain rfl : V = 0 := by unfold okV at h; omega
  obtain rfl : c = 128 := by omega
  go_enter Try.func14, Try.ntmps14
  go_wp2_with fail
  refine (rvalid_call _ _ _).mono ?_
  rintro e w1 ⟨rfl, hb⟩
  obtain ⟨hv, ho, hbw⟩ := TwoI.boxes w _ _ _ hb
  rw [decide_eq_true h]
  have HB := Lib.hid hbw
  have HO := Lib.hid (ho.set (0) (0))
  have v0 := hv.c0
  have v1 := hv.c1
  have c0 := ho.c0
  have c1 := (ho.set0 (0)).c1
  have f0 := ho.f 0
  have f1 := (ho.set0 (0)).f 1
  clear hb hbw ho hv h
  go_wp2_with fail
  all_goals
    have r0 := HO.out.c0
    have r1 := HO.out.c1
    go_wp2_with fail
  all_goals
    exact bodyPost_ret (v := .tuple #[.agg #[.int .i64 (0), .int .i64 (0)], .bool false, .int .i64 51]) (by simp [results, Try.results14, go_sem, r0, r1]) rfl ⟨rfl, ((HB.out.setCell (Nat.le_succ _) _).setCell (Nat.le_succ _) _)⟩
set_option maxRecDepth 100000 in
set_option maxHeartbeats 1000000 in
theorem rstep_great1 (V M : Int) (c : Nat) (hc : c < 256) (h : okV V M) (h2 : 2147483647 < V * 128 + (c : Int) % 128) (w : World) :
    Calls Try.prog 14 #[.agg #[.int .i64 V, .int .i64 M], .int .u8 c] w fun e w' => e = .returned (stepR V M c) ∧ Below w.heap.size w w' := by
  rw [stepR_great V M c h (by unfold okV at h; omega) (.inl h2)]
  have hV : ∃ v : Nat, V = v ∧ v < 268435456 := ⟨V.toNat, by unfold okV at h; omega, by unfold okV at h; omega⟩
  obtain ⟨v, rfl, hv28⟩ := hV
  have e127 := and127_u8 c hc
  have eor := or_u64 v c hv28
  have wv : IntKind.u64.wrap ((v : Int) * 128) = (v : Int) * 128 := by rw [IntKind.wrap_u64]; omega
  have w1' : IntKind.i64.wrap (128 * (v : Int)) = 128 * (v : Int) := IntWalk.i64_in _ (by omega)
  have w2' : IntKind.i64.wrap (128 * (v : Int) + (c : Int) % 128) = 128 * (v : Int) + (c : Int) % 128 := IntWalk.i64_in _ (by omega)
  rw [show (v : Int) * 128 = 128 * (v : Int) by omega] at h2
  have d0 : (M == 0) = false := by simp; unfold okV at h; omega
  have dg := decide_eq_true h2
  go_enter Try.func14, Try.ntmps14
  go_wp2_with fail
  refine (rvalid_call _ _ _).mono ?_
  rintro e w1 ⟨rfl, hb⟩
  obtain ⟨hv, ho, hbw⟩ := TwoI.boxes w _ _ _ hb
  rw [decide_eq_true h]
  have HB := Lib.hid hbw
  have HO := Lib.hid (ho.set (0) (0))
  have v0 := hv.c0
  have v1 := hv.c1
  have c0 := ho.c0
  have c1 := (ho.set0 (0)).c1
  have f0 := ho.f 0
  have f1 := (ho.set0 (0)).f 1
  clear hb hbw ho hv h
  go_wp2_with fail
  all_goals
    have r0 := HO.out.c0
    have r1 := HO.out.c1
    go_wp2_with fail
  all_goals
    exact bodyPost_ret (v := .tuple #[.agg #[.int .i64 (0), .int .i64 (0)], .bool false, .int .i64 52]) (by simp [results, Try.results14, go_sem, r0, r1]) rfl ⟨rfl, ((HB.out.setCell (Nat.le_succ _) _).setCell (Nat.le_succ _) _)⟩
set_option maxRecDepth 100000 in
set_option maxHeartbeats 1000000 in
theorem rstep_great2 (V M : Int) (c : Nat) (hc : c < 256) (h : okV V M) (h2 : ¬ 2147483647 < V * 128 + (c : Int) % 128) (h3 : M = 4 ∧ 128 ≤ (c : Int)) (w : World) :
    Calls Try.prog 14 #[.agg #[.int .i64 V, .int .i64 M], .int .u8 c] w fun e w' => e = .returned (stepR V M c) ∧ Below w.heap.size w w' := by
  rw [stepR_great V M c h (by omega) (.inr h3)]
  have hV : ∃ v : Nat, V = v ∧ v < 268435456 := ⟨V.toNat, by unfold okV at h; omega, by unfold okV at h; omega⟩
  obtain ⟨v, rfl, hv28⟩ := hV
  have e127 := and127_u8 c hc
  have eor := or_u64 v c hv28
  have wv : IntKind.u64.wrap ((v : Int) * 128) = (v : Int) * 128 := by rw [IntKind.wrap_u64]; omega
  have w1' : IntKind.i64.wrap (128 * (v : Int)) = 128 * (v : Int) := IntWalk.i64_in _ (by omega)
  have w2' : IntKind.i64.wrap (128 * (v : Int) + (c : Int) % 128) = 128 * (v : Int) + (c : Int) % 128 := IntWalk.i64_in _ (by omega)
  rw [show (v : Int) * 128 = 128 * (v : Int) by omega] at h2
  obtain ⟨rfl, h3⟩ := h3
  have dg := decide_eq_false h2
  have dd := decide_eq_true h3
  have e128 := and128_u8 c hc
  rw [if_neg (by omega)] at e128
  go_enter Try.func14, Try.ntmps14
  go_wp2_with fail
  refine (rvalid_call _ _ _).mono ?_
  rintro e w1 ⟨rfl, hb⟩
  obtain ⟨hv, ho, hbw⟩ := TwoI.boxes w _ _ _ hb
  rw [decide_eq_true h]
  have HB := Lib.hid hbw
  have HO := Lib.hid (ho.set (0) (0))
  have v0 := hv.c0
  have v1 := hv.c1
  have c0 := ho.c0
  have c1 := (ho.set0 (0)).c1
  have f0 := ho.f 0
  have f1 := (ho.set0 (0)).f 1
  clear hb hbw ho hv h
  go_wp2_with fail
  all_goals
    have r0 := HO.out.c0
    have r1 := HO.out.c1
    go_wp2_with fail
  all_goals
    exact bodyPost_ret (v := .tuple #[.agg #[.int .i64 (0), .int .i64 (0)], .bool false, .int .i64 52]) (by simp [results, Try.results14, go_sem, r0, r1]) rfl ⟨rfl, ((HB.out.setCell (Nat.le_succ _) _).setCell (Nat.le_succ _) _)⟩
set_option maxRecDepth 100000 in
set_option maxHeartbeats 1000000 in
theorem rstep_done (V M : Int) (c : Nat) (hc : c < 256) (h : okV V M) (h1 : ¬ (M = 0 ∧ (c : Int) = 128)) (h2 : ¬ 2147483647 < V * 128 + (c : Int) % 128) (h3 : (c : Int) < 128) (w : World) :
    Calls Try.prog 14 #[.agg #[.int .i64 V, .int .i64 M], .int .u8 c] w fun e w' => e = .returned (stepR V M c) ∧ Below w.heap.size w w' := by
  rw [stepR_ok V M c h h1 (by omega)]
  have hV : ∃ v : Nat, V = v ∧ v < 268435456 := ⟨V.toNat, by unfold okV at h; omega, by unfold okV at h; omega⟩
  obtain ⟨v, rfl, hv28⟩ := hV
  have e127 := and127_u8 c hc
  have eor := or_u64 v c hv28
  have wv : IntKind.u64.wrap ((v : Int) * 128) = (v : Int) * 128 := by rw [IntKind.wrap_u64]; omega
  have w1' : IntKind.i64.wrap (128 * (v : Int)) = 128 * (v : Int) := IntWalk.i64_in _ (by omega)
  have w2' : IntKind.i64.wrap (128 * (v : Int) + (c : Int) % 128) = 128 * (v : Int) + (c : Int) % 128 := IntWalk.i64_in _ (by omega)
  rw [show (v : Int) * 128 = 128 * (v : Int) by omega] at h2
  rw [show (v : Int) * 128 = 128 * (v : Int) by omega]
  have hM : 0 ≤ M ∧ M ≤ 4 := by unfold okV at h; omega
  have dg := decide_eq_false h2
  have dc := decide_eq_true h3
  have dd : decide (128 ≤ (c : Int)) = false := by simp; omega
  have d8 : ((c : Int) == 128) = false := by simp; omega
  have e128 := and128_u8 c hc
  rw [if_pos (by omega)] at e128
  rw [dc]
  clear h1
  have hs : M = 0 ∨ M = 4 ∨ ((M == 0) = false ∧ (M == 4) = false ∧ IntKind.i64.wrap (M + 1) = M + 1) := by
    by_cases q0 : M = 0
    · exact .inl q0
    · by_cases q4 : M = 4
      · exact .inr (.inl q4)
      · exact .inr (.inr ⟨by simp [q0], by simp [q4], IntWalk.i64_in _ (by omega)⟩)
  clear hM
  rcases hs with rfl | rfl | ⟨d0, d4, wm⟩
  · skip
    go_enter Try.func14, Try.ntmps14
    go_wp2_with fail
    refine (rvalid_call _ _ _).mono ?_
    rintro e w1 ⟨rfl, hb⟩
    obtain ⟨hv, ho, hbw⟩ := TwoI.boxes w _ _ _ hb
    rw [decide_eq_true h]
    have HB := Lib.hid hbw
    have HO := Lib.hid (ho.set (128 * (v : Int) + (c : Int) % 128) (1))
    have v0 := hv.c0
    have v1 := hv.c1
    have c0 := ho.c0
    have c1 := (ho.set0 (128 * (v : Int) + (c : Int) % 128)).c1
    have f0 := ho.f 0
    have f1 := (ho.set0 (128 * (v : Int) + (c : Int) % 128)).f 1
    clear hb hbw ho hv h
    go_wp2_with fail
    all_goals
      have r0 := HO.out.c0
      have r1 := HO.out.c1
      go_wp2_with fail
    all_goals
      exact bodyPost_ret (v := .tuple #[.agg #[.int .i64 (128 * (v : Int) + (c : Int) % 128), .int .i64 (1)], .bool true, .int .i64 0]) (by simp [results, Try.results14, go_sem, r0, r1]) rfl ⟨rfl, ((HB.out.setCell (Nat.le_succ _) _).setCell (Nat.le_succ _) _)⟩
  · skip
    go_enter Try.func14, Try.ntmps14
    go_wp2_with fail
    refine (rvalid_call _ _ _).mono ?_
    rintro e w1 ⟨rfl, hb⟩
    obtain ⟨hv, ho, hbw⟩ := TwoI.boxes w _ _ _ hb
    rw [decide_eq_true h]
    have HB := Lib.hid hbw
    have HO := Lib.hid (ho.set (128 * (v : Int) + (c : Int) % 128) (5))
    have v0 := hv.c0
    have v1 := hv.c1
    have c0 := ho.c0
    have c1 := (ho.set0 (128 * (v : Int) + (c : Int) % 128)).c1
    have f0 := ho.f 0
    have f1 := (ho.set0 (128 * (v : Int) + (c : Int) % 128)).f 1
    clear hb hbw ho hv h
    go_wp2_with fail
    all_goals
      have r0 := HO.out.c0
      have r1 := HO.out.c1
      go_wp2_with fail
    all_goals
      exact bodyPost_ret (v := .tuple #[.agg #[.int .i64 (128 * (v : Int) + (c : Int) % 128), .int .i64 (5)], .bool true, .int .i64 0]) (by simp [results, Try.results14, go_sem, r0, r1]) rfl ⟨rfl, ((HB.out.setCell (Nat.le_succ _) _).setCell (Nat.le_succ _) _)⟩
  · skip
    go_enter Try.func14, Try.ntmps14
    go_wp2_with fail
    refine (rvalid_call _ _ _).mono ?_
    rintro e w1 ⟨rfl, hb⟩
    obtain ⟨hv, ho, hbw⟩ := TwoI.boxes w _ _ _ hb
    rw [decide_eq_true h]
    have HB := Lib.hid hbw
    have HO := Lib.hid (ho.set (128 * (v : Int) + (c : Int) % 128) (M + 1))
    have v0 := hv.c0
    have v1 := hv.c1
    have c0 := ho.c0
    have c1 := (ho.set0 (128 * (v : Int) + (c : Int) % 128)).c1
    have f0 := ho.f 0
    have f1 := (ho.set0 (128 * (v : Int) + (c : Int) % 128)).f 1
    clear hb hbw ho hv h
    go_wp2_with fail
    all_goals
      have r0 := HO.out.c0
      have r1 := HO.out.c1
      go_wp2_with fail
    all_goals
      exact bodyPost_ret (v := .tuple #[.agg #[.int .i64 (128 * (v : Int) + (c : Int) % 128), .int .i64 (M + 1)], .bool true, .int .i64 0]) (by simp [results, Try.results14, go_sem, r0, r1]) rfl ⟨rfl, ((HB.out.setCell (Nat.le_succ _) _).setCell (Nat.le_succ _) _)⟩
set_option maxRecDepth 100000 in
set_option maxHeartbeats 1000000 in
theorem rstep_more (V M : Int) (c : Nat) (hc : c < 256) (h : okV V M) (h1 : ¬ (M = 0 ∧ (c : Int) = 128)) (h2 : ¬ 2147483647 < V * 128 + (c : Int) % 128) (h3 : 128 ≤ (c : Int)) (h4 : M ≠ 4) (w : World) :
    Calls Try.prog 14 #[.agg #[.int .i64 V, .int .i64 M], .int .u8 c] w fun e w' => e = .returned (stepR V M c) ∧ Below w.heap.size w w' := by
  rw [stepR_ok V M c h h1 (by omega)]
  have hV : ∃ v : Nat, V = v ∧ v < 268435456 := ⟨V.toNat, by unfold okV at h; omega, by unfold okV at h; omega⟩
  obtain ⟨v, rfl, hv28⟩ := hV
  have e127 := and127_u8 c hc
  have eor := or_u64 v c hv28
  have wv : IntKind.u64.wrap ((v : Int) * 128) = (v : Int) * 128 := by rw [IntKind.wrap_u64]; omega
  have w1' : IntKind.i64.wrap (128 * (v : Int)) = 128 * (v : Int) := IntWalk.i64_in _ (by omega)
  have w2' : IntKind.i64.wrap (128 * (v : Int) + (c : Int) % 128) = 128 * (v : Int) + (c : Int) % 128 := IntWalk.i64_in _ (by omega)
  rw [show (v : Int) * 128 = 128 * (v : Int) by omega] at h2
  rw [show (v : Int) * 128 = 128 * (v : Int) by omega]
  have hM : 0 ≤ M ∧ M ≤ 4 := by unfold okV at h; omega
  have dc : decide ((c : Int) < 128) = false := by simp; omega
  have dd := decide_eq_true h3
  have e128 := and128_u8 c hc
  rw [if_neg (by omega)] at e128
  rw [dc]
  have hs : (M = 0 ∧ c ≠ 128) ∨ ((M == 0) = false ∧ (M == 4) = false ∧ IntKind.i64.wrap (M + 1) = M + 1) := by
    by_cases q0 : M = 0
    · exact .inl ⟨q0, by omega⟩
    · exact .inr ⟨by simp [q0], by simp [h4], IntWalk.i64_in _ (by omega)⟩
  clear hM h4 h1
  have hs : (M = 0 ∧ c ≠ 128) ∨ (((M == 0) = false ∧ (M == 4) = false ∧ IntKind.i64.wrap (M + 1) = M + 1) ∧ c ≠ 128) ∨ (((M == 0) = false ∧ (M == 4) = false ∧ IntKind.i64.wrap (M + 1) = M + 1) ∧ c = 128) := by
    rcases hs with hs | hs
    · exact .inl hs
    · by_cases h8 : c = 128
      · exact .inr (.inr ⟨hs, h8⟩)
      · exact .inr (.inl ⟨hs, h8⟩)
  rcases hs with ⟨rfl, h8⟩ | ⟨⟨d0, d4, wm⟩, h8⟩ | ⟨⟨d0, d4, wm⟩, rfl⟩
  · have d8 : ((c : Int) == 128) = false := by simp; omega
    have dg := decide_eq_false h2
    go_enter Try.func14, Try.ntmps14
    go_wp2_with fail
    refine (rvalid_call _ _ _).mono ?_
    rintro e w1 ⟨rfl, hb⟩
    obtain ⟨hv, ho, hbw⟩ := TwoI.boxes w _ _ _ hb
    rw [decide_eq_true h]
    have HB := Lib.hid hbw
    have HO := Lib.hid (ho.set (128 * (v : Int) + (c : Int) % 128) (1))
    have v0 := hv.c0
    have v1 := hv.c1
    have c0 := ho.c0
    have c1 := (ho.set0 (128 * (v : Int) + (c : Int) % 128)).c1
    have f0 := ho.f 0
    have f1 := (ho.set0 (128 * (v : Int) + (c : Int) % 128)).f 1
    clear hb hbw ho hv h
    go_wp2_with fail
    all_goals
      have r0 := HO.out.c0
      have r1 := HO.out.c1
      go_wp2_with fail
    all_goals
      exact bodyPost_ret (v := .tuple #[.agg #[.int .i64 (128 * (v : Int) + (c : Int) % 128), .int .i64 (1)], .bool false, .int .i64 0]) (by simp [results, Try.results14, go_sem, r0, r1]) rfl ⟨rfl, ((HB.out.setCell (Nat.le_succ _) _).setCell (Nat.le_succ _) _)⟩
  · have d8 : ((c : Int) == 128) = false := by simp; omega
    have dg := decide_eq_false h2
    go_enter Try.func14, Try.ntmps14
    go_wp2_with fail
    refine (rvalid_call _ _ _).mono ?_
    rintro e w1 ⟨rfl, hb⟩
    obtain ⟨hv, ho, hbw⟩ := TwoI.boxes w _ _ _ hb
    rw [decide_eq_true h]
    have HB := Lib.hid hbw
    have HO := Lib.hid (ho.set (128 * (v : Int) + (c : Int) % 128) (M + 1))
    have v0 := hv.c0
    have v1 := hv.c1
    have c0 := ho.c0
    have c1 := (ho.set0 (128 * (v : Int) + (c : Int) % 128)).c1
    have f0 := ho.f 0
    have f1 := (ho.set0 (128 * (v : Int) + (c : Int) % 128)).f 1
    clear hb hbw ho hv h
    go_wp2_with fail
    all_goals
      have r0 := HO.out.c0
      have r1 := HO.out.c1
      go_wp2_with fail
    all_goals
      exact bodyPost_ret (v := .tuple #[.agg #[.int .i64 (128 * (v : Int) + (c : Int) % 128), .int .i64 (M + 1)], .bool false, .int .i64 0]) (by simp [results, Try.results14, go_sem, r0, r1]) rfl ⟨rfl, ((HB.out.setCell (Nat.le_succ _) _).setCell (Nat.le_succ _) _)⟩
  · have e0 : 128 * (v : Int) + ((128 : Nat) : Int) % 128 = 128 * (v : Int) := by omega
    rw [e0] at h2 ⊢
    have dg := decide_eq_false h2
    clear e0 w2'
    go_enter Try.func14, Try.ntmps14
    go_wp2_with fail
    refine (rvalid_call _ _ _).mono ?_
    rintro e w1 ⟨rfl, hb⟩
    obtain ⟨hv, ho, hbw⟩ := TwoI.boxes w _ _ _ hb
    rw [decide_eq_true h]
    have HB := Lib.hid hbw
    have HO := Lib.hid (ho.set (128 * (v : Int)) (M + 1))
    have v0 := hv.c0
    have v1 := hv.c1
    have c0 := ho.c0
    have c1 := (ho.set0 (128 * (v : Int))).c1
    have f0 := ho.f 0
    have f1 := (ho.set0 (128 * (v : Int))).f 1
    clear hb hbw ho hv h
    go_wp2_with fail
    all_goals
      have r0 := HO.out.c0
      have r1 := HO.out.c1
      go_wp2_with fail
    all_goals
      exact bodyPost_ret (v := .tuple #[.agg #[.int .i64 (128 * (v : Int)), .int .i64 (M + 1)], .bool false, .int .i64 0]) (by simp [results, Try.results14, go_sem, r0, r1]) rfl ⟨rfl, ((HB.out.setCell (Nat.le_succ _) _).setCell (Nat.le_succ _) _)⟩

theorem step_call (V M : Int) (c : Nat) (hc : c < 256) (w : World) :
    Calls Try.prog 13 #[.agg #[.int .i64 V, .int .i64 M], .int .u8 c] w fun e w' => e = .returned (stepR V M c) ∧ Below w.heap.size w w' := by
  by_cases h : okV V M
  · by_cases h1 : M = 0 ∧ (c : Int) = 128
    · exact step_form V M c hc h h1 w
    · by_cases h2 : 2147483647 < V * 128 + (c : Int) % 128
      · exact step_great1 V M c hc h h2 w
      · by_cases h3 : (c : Int) < 128
        · exact step_done V M c hc h h1 h2 h3 w
        · by_cases h4 : M = 4
          · exact step_great2 V M c hc h h2 ⟨h4, by omega⟩ w
          · exact step_more V M c hc h h1 h2 (by omega) h4 w
  · exact step_bad V M c hc h w
theorem rstep_call (V M : Int) (c : Nat) (hc : c < 256) (w : World) :
    Calls Try.prog 14 #[.agg #[.int .i64 V, .int .i64 M], .int .u8 c] w fun e w' => e = .returned (stepR V M c) ∧ Below w.heap.size w w' := by
  by_cases h : okV V M
  · by_cases h1 : M = 0 ∧ (c : Int) = 128
    · exact rstep_form V M c hc h h1 w
    · by_cases h2 : 2147483647 < V * 128 + (c : Int) % 128
      · exact rstep_great1 V M c hc h h2 w
      · by_cases h3 : (c : Int) < 128
        · exact rstep_done V M c hc h h1 h2 h3 w
        · by_cases h4 : M = 4
          · exact rstep_great2 V M c hc h h2 ⟨h4, by omega⟩ w
          · exact rstep_more V M c hc h h1 h2 (by omega) h4 w
  · exact rstep_bad V M c hc h w
end Go.Proofs.Ytalkmbakglklbaa
