/- Package lengthtable: the bits of a whole table, visited by a range over a function with another within. -/
import Derived.Test.YtckopdifjhjppaaLdI
set_option linter.unusedVariables false
set_option linter.unusedSimpArgs false
namespace Go.Proofs.Ytckopdifjhjppaa
open Go.RowKit Go.Shelf
attribute [local go_sem] Oper.semAt_some

/-! Marks among a function's deferred calls. -/
def mkD (D : Nat) : Deferred := { target := .collected D, args := #[] }
structure Mk (B : Nat) (ds : List Nat) (w : World) : Prop where
  nodup : ds.Nodup
  ge : ∀ D ∈ ds, B < D
  is : ∀ D ∈ ds, w.heap[D]? = some (.deferred (some []))
theorem Mk.nil (B : Nat) (w : World) : Mk B [] w := ⟨List.nodup_nil, fun D h => absurd h (by simp), fun D h => absurd h (by simp)⟩
theorem Mk.on {B : Nat} {ds : List Nat} {w w' : World} {S : Nat → Prop} (h : Mk B ds w) (hc : Ch S w w') (hn : ∀ D ∈ ds, ¬ S D) : Mk B ds w' := ⟨h.nodup, h.ge, fun D hD => hc.heap (h.is D hD) (hn D hD)⟩
theorem Mk.push {B : Nat} {ds : List Nat} {w w' : World} {S : Nat → Prop} (h : Mk B ds w) (hc : Ch S w w') (hn : ∀ D ∈ ds, ¬ S D) {D : Nat} (hD : w'.heap[D]? = some (.deferred (some []))) (hg : w.heap.size ≤ D) (hB : B < D) : Mk B (D :: ds) w' := by
  have h1 := h.on hc hn
  refine ⟨List.nodup_cons.2 ⟨fun e => ?_, h.nodup⟩, fun E hE => ?_, fun E hE => ?_⟩
  · have := (Array.getElem?_eq_some_iff.1 (h.is D e)).1
    omega
  · rcases List.mem_cons.1 hE with rfl | hE
    · exact hB
    · exact h.ge E hE
  · rcases List.mem_cons.1 hE with rfl | hE
    · exact hD
    · exact h1.is E hE
/-- Marks are taken at the end, one after the other. -/
theorem leaves_marks {P : Program} {n : Nat} {fn : Func} {tmps : Array Value} {R : Ending → World → Prop} : ∀ (ds : List Nat) (B : Nat) (w : World), Mk B ds w → (∀ w', Ch (fun k => k ∈ ds) w w' → LeavesIn Fence.wide n P fn tmps R [] .returning w') → LeavesInM Fence.wide n P fn tmps R (ds.map mkD) .returning w
  | [], B, w, _, h => h w (Ch.refl _ _)
  | D :: ds, B, w, hM, h => by
    have hD := hM.is D (by simp)
    have hc := ch_putObj w D (.deferred none)
    obtain ⟨n1, n2⟩ := List.nodup_cons.1 hM.nodup
    refine ⟨by simp, .inl ⟨D, _, rfl, run_takeDeferred hD, leaves_marks ds B _ ⟨n2, fun E hE => hM.ge E (by simp [hE]), fun E hE => hc.heap (hM.is E (by simp [hE])) (fun e => n1 (by rw [← e]; exact hE))⟩ (fun w' hc' => h w' ?_)⟩⟩
    exact (hc.mono (S' := fun k => k ∈ D :: ds) (fun i _ e => by rw [e]; simp)).trans hc' (fun i _ e => by simp [e])

/-! Encodings and their beginnings. -/
theorem enc_pre (f : Int) (L : List Int) : ∀ (s t : Nat), s ≤ t → encV f L s <+: encV f L t := fun s t h => by
  induction t with
  | zero => rw [show s = 0 by omega]; exact List.prefix_refl _
  | succ t ih =>
    by_cases e : s = t + 1
    · rw [e]; exact List.prefix_refl _
    · exact (ih (by omega)).trans (List.prefix_append _ _)
theorem put_pre {f : Int} {L : List Int} {k : Nat} (hk : k < 258) {pre : List Int} {x : Int} (h : pre ++ [x] <+: putV (pv f L k) (gl L k)) : (encV f L k ++ pre) ++ [x] <+: encV f L 258 := by
  rw [List.append_assoc]
  exact ((List.prefix_append_right_inj _).2 h).trans (enc_pre f L (k + 1) 258 (by omega))
theorem nib_pre (f : Int) (L : List Int) (k m : Nat) (hk : k + m = 3) : (nibV f).take k ++ [f / 2 ^ m % 2] = (nibV f).take (k + 1) ∧ (nibV f).take k ++ [f / 2 ^ m % 2] <+: encV f L 258 := by
  have h1 : (nibV f).take k ++ [f / 2 ^ m % 2] = (nibV f).take (k + 1) := by
    have h : k = 0 ∨ k = 1 ∨ k = 2 ∨ k = 3 := by omega
    rcases h with rfl | rfl | rfl | rfl
    · obtain rfl : m = 3 := by omega
      rfl
    · obtain rfl : m = 2 := by omega
      rfl
    · obtain rfl : m = 1 := by omega
      show [_, _] ++ [f / 2 ^ 1 % 2] = _
      rw [Int.pow_succ, Int.pow_zero]
      rfl
    · obtain rfl : m = 0 := by omega
      show [_, _, _] ++ [f / 2 ^ 0 % 2] = _
      rw [Int.pow_zero, Int.ediv_one]
      rfl
  exact ⟨h1, by rw [h1]; exact (List.take_prefix _ _).trans (enc_pre f L 0 258 (by omega))⟩
theorem and1_small (x : Int) (h : 0 ≤ x ∧ x ≤ 15) : bits .and .i64 x 1 = x % 2 := by
  have hx : x = 0 ∨ x = 1 ∨ x = 2 ∨ x = 3 ∨ x = 4 ∨ x = 5 ∨ x = 6 ∨ x = 7 ∨ x = 8 ∨ x = 9 ∨ x = 10 ∨ x = 11 ∨ x = 12 ∨ x = 13 ∨ x = 14 ∨ x = 15 := by omega
  rcases hx with rfl | rfl | rfl | rfl | rfl | rfl | rfl | rfl | rfl | rfl | rfl | rfl | rfl | rfl | rfl | rfl <;> rfl

/-- Where the visit has come to: the caller's state, the box of yield, the table. -/
structure BoS (J : (Nat → Prop) → List Int → World → Prop) (S : Nat → Prop) (W : World) (g : Nat) (L : List Int) (l : Nat) (ds : List Nat) (pre : List Int) (wr : World) (S1 : Nat → Prop) : Prop where
  j : J S1 pre wr
  c : Ch S W wr
  s : ∀ k, S1 k → S k ∨ W.heap.size < k
  d : ∀ D ∈ ds, ¬ S1 D
  y : wr.heap[W.heap.size]? = some (.cells #[.func (.yield l) #[] #[]] 52 (0, 0))
  b : wr.heap[g]? = some (.cells (lg L) 23 (0, 0))
def Bo (J : (Nat → Prop) → List Int → World → Prop) (S : Nat → Prop) (W : World) (g : Nat) (L : List Int) (l : Nat) (ds : List Nat) (pre : List Int) (wr : World) : Prop := ∃ S1, BoS J S W g L l ds pre wr S1
section
variable {J : (Nat → Prop) → List Int → World → Prop} {S : Nat → Prop} {W : World} {g : Nat} {L : List Int} {l : Nat} {ds : List Nat} {pre pre2 : List Int} {wr w2 : World} {S1 : Nat → Prop}
theorem BoS.ny (h : BoS J S W g L l ds pre wr S1) (hlt : ∀ k, S k → k < W.heap.size) : ¬ S1 W.heap.size := fun e => by
  rcases h.s _ e with e | e
  · have := hlt _ e; omega
  · omega
theorem BoS.nb (h : BoS J S W g L l ds pre wr S1) (hg : ¬ S g) (hgW : g < W.heap.size) : ¬ S1 g := fun e => by
  rcases h.s _ e with e | e
  · exact hg e
  · omega
theorem BoS.rnd (h : BoS J S W g L l ds pre wr S1) (hlt : ∀ k, S k → k < W.heap.size) (hg : ¬ S g) (hgW : g < W.heap.size) (hdl : ∀ D ∈ ds, D < wr.heap.size) {S2 : Nat → Prop} (j2 : J S2 pre2 w2) (c2 : Ch S1 wr w2) (s2 : ∀ k, S2 k → S1 k ∨ wr.heap.size ≤ k) : BoS J S W g L l ds pre2 w2 S2 := by
  have hz : W.heap.size < wr.heap.size := (Array.getElem?_eq_some_iff.1 h.y).1
  refine ⟨j2, ?_, fun k hk => ?_, fun D hD e => ?_, c2.heap h.y (h.ny hlt), c2.heap h.b (h.nb hg hgW)⟩
  · refine h.c.trans c2 (fun i hi e => ?_)
    rcases h.s i e with e | e
    · exact e
    · omega
  · rcases s2 k hk with e | e
    · exact h.s k e
    · exact .inr (by omega)
  · rcases s2 D e with e | e
    · exact h.d D hD e
    · have := hdl D hD; omega
end

/-- What an inner loop keeps: the caller's state and the box of yield. -/
def Inn (J : (Nat → Prop) → List Int → World → Prop) (yb l : Nat) (done : List Int) (S : Nat → Prop) (pre : List Int) (W : World) : Prop := ∃ S1, (∀ j, S j ↔ S1 j ∨ j = yb) ∧ J S1 (done ++ pre) W ∧ ¬ S1 yb ∧ W.heap[yb]? = some (.cells #[.func (.yield l) #[] #[]] 52 (0, 0))
theorem Inn.keeper {J : (Nat → Prop) → List Int → World → Prop} (hJ : Keeper J) (yb l : Nat) (done : List Int) : Keeper (Inn J yb l done) := by
  constructor
  · rintro S pre W ⟨S1, hS, hj, hn, hy⟩ k hk
    rcases (hS k).1 hk with h | rfl
    · exact hJ.lt _ _ _ hj k h
    · exact (Array.getElem?_eq_some_iff.1 hy).1
  · rintro S T pre W W' ⟨S1, hS, hj, hn, hy⟩ hc hT
    exact ⟨S1, hS, hJ.on _ _ _ _ _ hj hc (fun k hk e => hT k hk ((hS k).2 (.inl e))), hn, hc.heap hy (fun e => hT _ e ((hS yb).2 (.inr rfl)))⟩
section
variable {J : (Nat → Prop) → List Int → World → Prop} {S : Nat → Prop} {W : World} {g : Nat} {L : List Int} {l : Nat} {ds : List Nat} {pre pre2 : List Int} {wr w2 : World} {S1 : Nat → Prop}
theorem BoS.alloc (hJ : Keeper J) (h : BoS J S W g L l ds pre wr S1) (o : Obj) : BoS J S W g L l ds pre (wr.alloc o) S1 :=
  ⟨hJ.alloc h.j o, h.c.alloc o, h.s, h.d, by rw [Below.heap_alloc _ _ _ (Array.getElem?_eq_some_iff.1 h.y).1]; exact h.y, by rw [Below.heap_alloc _ _ _ (Array.getElem?_eq_some_iff.1 h.b).1]; exact h.b⟩
theorem BoS.inn (h : BoS J S W g L l ds pre wr S1) (hlt : ∀ k, S k → k < W.heap.size) : Inn J W.heap.size l pre (fun j => S1 j ∨ j = W.heap.size) [] wr := ⟨S1, fun _ => Iff.rfl, by rw [List.append_nil]; exact h.j, h.ny hlt, h.y⟩
theorem BoS.next (h : BoS J S W g L l ds pre wr S1) (hM : Mk W.heap.size ds wr) (hlt : ∀ k, S k → k < W.heap.size) (hg : ¬ S g) (hgW : g < W.heap.size) {q : List Int} {S3 : Nat → Prop} {D : Nat} (hi : Inn J W.heap.size l pre S3 q w2) (hc : Ch (fun j => S1 j ∨ j = W.heap.size) wr w2) (hs : ∀ k, S3 k → (S1 k ∨ k = W.heap.size) ∨ wr.heap.size ≤ k)
    (hD : wr.heap.size ≤ D) (hDd : w2.heap[D]? = some (.deferred (some []))) (hnD : ¬ S3 D) : Mk W.heap.size (D :: ds) w2 ∧ Bo J S W g L l (D :: ds) (pre ++ q) w2 := by
  have hz : W.heap.size < wr.heap.size := (Array.getElem?_eq_some_iff.1 h.y).1
  have hds : ∀ E ∈ ds, ¬ (S1 E ∨ E = W.heap.size) ∧ E < wr.heap.size := fun E hE => by
    have h1 := hM.ge E hE
    have h2 := (Array.getElem?_eq_some_iff.1 (hM.is E hE)).1
    refine ⟨fun e => ?_, h2⟩
    rcases e with e | e
    · exact h.d E hE e
    · omega
  refine ⟨hM.push hc (fun E hE => (hds E hE).1) hDd hD (by omega), ?_⟩
  obtain ⟨S4, h34, hj, hny, hy⟩ := hi
  refine ⟨S4, hj, h.c.trans hc (fun i hi e => ?_), fun k hk => ?_, fun E hE e => ?_, hy, hc.heap h.b (fun e => ?_)⟩
  · rcases e with e | e
    · rcases h.s i e with e | e
      · exact e
      · omega
    · omega
  · rcases hs k ((h34 k).2 (.inl hk)) with (e | e) | e
    · exact h.s k e
    · rw [e] at hk; exact absurd hk hny
    · exact .inr (by omega)
  · rcases List.mem_cons.1 hE with rfl | hE
    · exact hnD ((h34 _).2 (.inl e))
    · rcases hs E ((h34 E).2 (.inl e)) with h1 | h1
      · exact (hds E hE).1 h1
      · have := (hds E hE).2; omega
  · rcases e with e | e
    · exact h.nb hg hgW e
    · omega
end
theorem wpListIn_load_row {F : Fence} {n : Nat} {P : Program} {ops : Array Oper} {rest : List Oper} {o : Oper} {a : Act} {w : World} {Q : Exit → Act → World → Prop} (hgd : o.guard = none) (ty : TypeId) (x : Operand) (ho : o.op = .load ty x)
    (g : Nat) (hx : a.eval x = .pointer (some ⟨g, 0, none⟩)) (t : TypeId) (cs : Array Value) (fr : Nat × Nat) (d : TypeDesc) (hg : w.heap[g]? = some (.cells cs t fr))
    (hu : P.underlying ty = some d) (hd : (match d with | .struct _ | .array _ _ => true | _ => false) = true) (hi : (P.info? ty).map (·.size) = some cs.size)
    (h : wpListIn F n P ops Q rest (a.put o.dst (.agg cs)) w) : wpListIn F n P ops Q (o :: rest) a w := by
  refine wpListIn_plain hgd fun K hK => ?_
  unfold Oper.wpIn
  refine ⟨by simp [Oper.about, ho], ?_⟩
  rw [Oper.semAt_plain F _ _ (by rw [ho]; intro c hc; cases hc)]
  simp only [execOp, ho, hx, Instr.loadAt, Instr.sureAddr, Sem.run_bind, Sem.run_pure, Result.andThen_ok, run_loadVar_row w g t ty cs fr d hg hu hd hi]
  exact hK _ _ h
theorem wpIn_noPanic {F : Fence} {n : Nat} {P : Program} {c : Code} {Q : Exit → Act → World → Prop} {a : Act} {w : World} (h : c.wpIn F n P (NoPanic Q) a w) : c.wpIn F n P Q a w := wpIn_mono h NoPanic.imp

set_option maxRecDepth 100000 in
set_option maxHeartbeats 4000000 in
theorem bitsOf1_in (L : List Int) (hL : Lng L) (hsm : ∀ s, s < 258 → 0 ≤ gl L s ∧ gl L s ≤ 15) (g : Nat) (n : Nat) :
    SeqC 7 Try.prog 42 #[.pointer (some ⟨g, 0, none⟩)] (.int .i64) (encV (gl L 0) L 258)
      (fun W => W.heap[g]? = some (.cells (lg L) 23 (0, 0))) (fun k => k = g) := by
  generalize hV : encV (gl L 0) L 258 = V
  have HV : Unit → encV (gl L 0) L 258 = V := fun _ => hV
  clear hV
  intro l J S W hJ hY h0 hg hfoot
  have HSM := Lib.hid hsm
  have HPV := Lib.hid (pv_bd (gl L 0) (hsm 0 (by omega)) L hsm)
  have HY := Lib.hid hY
  have HJ := Lib.hid hJ
  have hng : ¬ S g := hfoot g rfl
  have hgW : g < W.heap.size := (Array.getElem?_eq_some_iff.1 hg).1
  have hSl := Lib.hid (hJ.lt S [] W h0)
  have hB0 : Bo J S W g L l [] [] (W.alloc (.cells #[.func (.yield l) #[] #[]] 52)) :=
    ⟨S, hJ.alloc h0 _, (Ch.refl _ _).alloc _, fun _ e => .inl e, fun D hD => absurd hD (by simp), heap_alloc_last W _, by rw [Below.heap_alloc _ _ _ hgW]; exact hg⟩
  have hbd0 := hsm 0 (by omega)
  have hst : ∀ k, encV (gl L 0) L (k + 1) = encV (gl L 0) L k ++ putV (pv (gl L 0) L k) (gl L k) := fun k => rfl
  have hn0 : encV (gl L 0) L 0 = (nibV (gl L 0)).take 4 := rfl
  have HST := Lib.hid hst
  have HN0 := Lib.hid hn0
  have HNIB := Lib.hid (show ∀ k m, k + m = 3 → (nibV (gl L 0)).take k ++ [gl L 0 / 2 ^ m % 2] = (nibV (gl L 0)).take (k + 1) ∧ (nibV (gl L 0)).take k ++ [gl L 0 / 2 ^ m % 2] <+: V from fun k m h => by rw [← HV ()]; exact nib_pre (gl L 0) L k m h)
  have HPUT := Lib.hid (show ∀ k, k < 258 → ∀ (pre : List Int) (x : Int), pre ++ [x] <+: putV (pv (gl L 0) L k) (gl L k) → (encV (gl L 0) L k ++ pre) ++ [x] <+: V from fun k hk pre x h => by rw [← HV ()]; exact put_pre hk h)
  have HEND := Lib.hid (show ∀ k, k = 258 → encV (gl L 0) L k = V from fun k h => by rw [h]; exact HV ())
  clear HV
  have hgl0 : L.getD 0 0 = gl L 0 := rfl
  have HPV0 := Lib.hid (show pv (gl L 0) L 0 = gl L 0 from rfl)
  have HPVS := Lib.hid (show ∀ k, pv (gl L 0) L (k + 1) = gl L k from fun _ => rfl)
  clear hY hJ hfoot h0 hsm hst hn0
  refine callsIn_of_wp_marks Try.func42 rfl trivial ?_ rfl
  simp only [Try.ntmps42, List.size_toArray, List.length_cons, List.length_nil, Nat.reduceAdd, Nat.reduceSub, Array.replicate_succ, Array.replicate_zero, List.push_toArray, List.append_toArray, List.nil_append, List.cons_append]
  gi_upto_region 1 with fail
  generalize W.alloc (.cells #[.func (.yield l) #[] #[]] 52) = w1 at hB0 ⊢
  have hcl := lg_cell hB0.choose_spec.b hL 0 (by omega)
  rw [hgl0] at hcl
  clear hgl0 hg
  generalize hf : gl L 0 = f at *
  clear hf
  gi_upto_region 3 with fail
  clear hcl
  gi_loopw [4] (fun i wr => ∃ k : Nat, k ≤ 4 ∧ i = .int .i64 (3 - (k : Int)) ∧ Bo J S W g L l [] ((nibV f).take k) wr) (fun i _ => (intOf i + 1).toNat)
  case atStart => exact ⟨0, by omega, rfl, hB0⟩
  case round =>
    obtain ⟨k, hk, rfl, S1, hbo⟩ := hrel
    have HBO := Lib.hid hbo
    clear hbo
    by_cases hlt : k < 4
    · obtain ⟨m, hm⟩ : ∃ m : Nat, (3 : Int) - (k : Int) = m := ⟨3 - k, by omega⟩
      rw [hm]
      obtain ⟨hp1, hp2⟩ := HNIB.out k m (by omega)
      have hm3 : m ≤ 3 := by omega
      have hx0 : 0 ≤ f / 2 ^ m := Int.ediv_nonneg hbd0.1 (Int.le_of_lt (Int.pow_pos (by decide)))
      have hx1 : f / 2 ^ m ≤ f := Int.ediv_le_self _ hbd0.1
      have hand := and1_small (f / 2 ^ m) ⟨hx0, by omega⟩
      have HM := Lib.hid hm
      have hy0 := Boxed.cell (HBO.out.y)
      have hyd : wr.drew.cell? ⟨W.heap.size, 0, none⟩ = some (.func (.yield l) #[] #[]) := hy0
      obtain ⟨fn, tmps, assign, body, hy, hR⟩ := HY.out S1 _ (f / 2 ^ m % 2) wr.drew (HJ.out.drew HBO.out.j) hp2
      have HR := Lib.hid hR
      have HP1 := Lib.hid hp1
      clear hm hR hp1 hp2
      gi_upto_region 5 with fail
      have hmix : Try.prog.follows .mixedOrders = true := by kernel_rfl
      refine wpIn_noPanic ?_
      gi_region_with_o (refine (roundIn_wide HR.out).mono ?_; rintro e W2 ⟨rfl, S2, hj2, hc2, hs2⟩)
      refine NoPanic.normal ?_
      have hB2 := HBO.out.rnd hSl.out hng hgW (fun D hD => absurd hD (by simp)) (w2 := W2) (S2 := S2) hj2 ⟨hc2.os, hc2.tape, hc2.output, hc2.size, hc2.block⟩ hs2
      rw [HP1.out] at hB2
      gi_wp2
      go_roundw
      case rel => exact ⟨k + 1, by omega, by have := HM.out; go_num, S2, hB2⟩
      case measure => simp [intOf]
    · obtain rfl : k = 4 := by omega
      rw [← HN0.out] at HBO
      have HPL : (pv f L 0) = f := HPV0.out
      gi_upto_region 6 with fail
      have hgr := HBO.out.b
      gi_wp2_with (refine wpListIn_load_row rfl 23 _ rfl g rfl 23 (lg L) (0, 0) _ hgr Try.underlying23 rfl (lngIk hL) ?_)
      clear hgr
      rw [← HPV0.out]
      refine wpIn_loop (fun a' w' => ∃ (ds : List Nat) (k : Nat) (u4 u5 u6 u7 u8 u9 u10 u11 u12 u13 u14 u15 u16 u17 u18 u19 u20 u21 u24 u25 u26 u27 u28 u29 u30 u31 u32 u33 u34 u35 u36 u37 : Value), a' = { tmps := #[.func (.yield l) #[] #[], .pointer (some ⟨g, 0, none⟩), .pointer (some ⟨W.heap.size, 0, none⟩), .int .i64 (pv (f) L k), u4, u5, u6, u7, u8, u9, u10, u11, u12, u13, u14, u15, u16, u17, u18, u19, u20, u21, .agg (lg L), .int .i64 (k : Nat), u24, u25, u26, u27, u28, u29, u30, u31, u32, u33, u34, u35, u36, u37], defers := ds.map mkD } ∧ k ≤ 258 ∧ Mk W.heap.size ds w' ∧ Bo J S W g L l ds (encV (f) L k) w') (fun a' _ => 258 - (intOf (a'.tmps.getD 23 undef)).toNat) ?_ ?_
      · exact ⟨[], 0, _, _, _, _, _, _, _, _, _, _, _, _, _, _, _, _, _, _, _, _, _, _, _, _, _, _, _, _, _, _, _, _, rfl, by omega, Mk.nil _ _, S1, HBO.out⟩
      · rintro a' w0 ⟨ds, k, u4, u5, u6, u7, u8, u9, u10, u11, u12, u13, u14, u15, u16, u17, u18, u19, u20, u21, u24, u25, u26, u27, u28, u29, u30, u31, u32, u33, u34, u35, u36, u37, rfl, hk, hMk, S2, hbo⟩
        have HBO2 := Lib.hid hbo
        have HMK := Lib.hid hMk
        clear hbo hMk HBO
        by_cases hlt : k < 258
        · have hix := fun w => run_index_lng w hL k hlt
          have hgl : L.getD k 0 = gl L k := rfl
          rw [hgl] at hix
          clear hgl
          have hp := HPV.out k (by omega)
          have hq := HSM.out k hlt
          have HPS := Lib.hid (HPVS.out k)
          have HSTk := Lib.hid (HST.out k)
          have HPUTk := Lib.hid (fun pre x h => HPUT.out k hlt pre x h)
          obtain ⟨pk, hpk⟩ : ∃ pk, pk = pv f L k := ⟨_, rfl⟩
          obtain ⟨qk, hqk⟩ : ∃ qk, qk = gl L k := ⟨_, rfl⟩
          rw [← hpk, ← hqk] at HSTk
          rw [← hpk] at hp HPUTk ⊢
          rw [← hqk] at hix hq HPS HPUTk
          clear hpk hqk
          have hcb := Lib.hid (fun (W : World) => bitsFrom_in 6 pk qk W)
          gi_wp2_with (refine ⟨trivial, ?_⟩; gi_at_call 43; go_must (refine (hcb.out _).mono ?_; rintro e w2 ⟨rfl, rfl⟩))
          have HB2 := Lib.hid ((HBO2.out.alloc HJ.out (.cells #[.int .i64 pk] 3)).alloc HJ.out (.cells #[.int .i64 qk] 3))
          have HM2 := Lib.hid (HMK.out.on (((Ch.refl (fun _ => False) w0).alloc (.cells #[.int .i64 pk] 3)).alloc (.cells #[.int .i64 qk] 3)) (fun _ _ e => e))
          have hcp : ((w0.alloc (.cells #[.int .i64 pk] 3)).alloc (.cells #[.int .i64 qk] 3)).cell? ⟨w0.heap.size, 0, none⟩ = some (.int .i64 pk) := Boxed.cell (heap_alloc2_old w0 _ _)
          have hcq : ((w0.alloc (.cells #[.int .i64 pk] 3)).alloc (.cells #[.int .i64 qk] 3)).cell? ⟨w0.heap.size + 1, 0, none⟩ = some (.int .i64 qk) := Boxed.cell (heap_alloc2_new w0 _ _)
          clear HBO2 HMK hix
          generalize (w0.alloc (.cells #[.int .i64 pk] 3)).alloc (.cells #[.int .i64 qk] 3) = w2 at HB2 HM2 hcp hcq ⊢
          refine range_all (n := 7) (by omega) (gf := 49) (lb := #[.pointer (some ⟨w0.heap.size + 1, 0, none⟩), .pointer (some ⟨w0.heap.size, 0, none⟩)]) rfl (enters_of Try.func49 (by kernel_rfl) rfl)
            (bitsFrom1_seq pk qk hp hq w0.heap.size (w0.heap.size + 1) 6) rfl (Inn J W.heap.size l (encV f L k)) (Inn.keeper HJ.out _ _ _) (fun j => S2 j ∨ j = W.heap.size) (HB2.out.inn hSl.out)
            (fun X hX => ⟨hX.cell hcq (fun e => e), hX.cell hcp (fun e => e)⟩) (fun _ e => e.elim) (fun x => _) (fun l' x X K hK => by gi_wp2; exact hK) ?body ?done
          case body =>
            rintro l' S3 pre x X ⟨S4, h34, hj4, hn4, hy4⟩ hpre
            have hcy := Boxed.cell hy4
            obtain ⟨fn, tmps, assign, body, hy, hR⟩ := HY.out S4 _ x X hj4 (HPUTk.out pre x hpre)
            have HR := Lib.hid hR
            have HH := Lib.hid (show (∀ j, S3 j ↔ S4 j ∨ j = W.heap.size) ∧ ¬ S4 W.heap.size ∧ X.heap[W.heap.size]? = some (.cells #[.func (.yield l) #[] #[]] 52 (0, 0)) from ⟨h34, hn4, hy4⟩)
            clear hR h34 hj4 hn4 hy4
            gi_wp2
            refine (roundIn_any HR.out).mono ?_
            rintro e X2 ⟨rfl, S5, hj5, hc5, hs5⟩
            clear HR
            gi_wp2
            obtain ⟨h34, hn4, hy4⟩ := HH.out
            have hyX : W.heap.size < X.heap.size := (Array.getElem?_eq_some_iff.1 hy4).1
            refine ⟨fun j => S5 j ∨ j = W.heap.size, ⟨S5, fun _ => Iff.rfl, by rw [List.append_assoc] at hj5; exact hj5, fun e => ?_, hc5.heap hy4 hn4⟩, hc5.mono (fun i _ e => (h34 i).2 (.inl e)), fun k hk => ?_⟩
            · rcases hs5 _ e with e | e
              · exact hn4 e
              · omega
            · rcases hk with hk | hk
              · rcases hs5 k hk with e | e
                · exact .inl ((h34 k).2 (.inl e))
                · exact .inr e
              · exact .inl ((h34 k).2 (.inr hk))
          case done =>
            intro D S3 X hD hi hDd hnD hcX hsX
            obtain ⟨hM3, hB3⟩ := HB2.out.next HM2.out hSl.out hng hgW hi hcX hsX hD hDd hnD
            rw [← HSTk.out] at hB3
            have HM3 := Lib.hid hM3
            have HB3 := Lib.hid hB3
            clear hM3 hB3 hDd hnD hcX hsX hi HB2 HM2 hcp hcq HPUTk hcb
            gi_wp2
            obtain ⟨S4, hB4⟩ := HB3.out
            rw [← HPS.out]
            refine ⟨⟨D :: ds, k + 1, _, _, _, _, _, _, _, _, _, _, _, _, _, _, _, _, _, _, _, _, _, _, _, _, _, _, _, _, _, _, _, _, rfl, by omega, HM3.out, S4, hB4⟩, ?_⟩
            simp [intOf]
            omega
        · have hbo := HBO2.out
          rw [HEND.out k (by omega)] at hbo
          clear HBO2
          gi_wp2
          refine leaves_marks ds W.heap.size w0 HMK.out (fun w' hc => ?_)
          refine ⟨_, results_none rfl _ _ _, ⟨_, rfl⟩, S2, HJ.out.on _ _ _ _ _ hbo.j hc (fun D hD => hbo.d D hD), hbo.c.trans hc (fun i hi e => ?_), fun i hi => ?_⟩
          · have := HMK.out.ge i e; omega
          · rcases hbo.s i hi with e | e
            · exact .inl e
            · exact .inr (by omega)
end Go.Proofs.Ytckopdifjhjppaa
