/- Package bitwriter: Put. -/
import Derived.Test.YtnpohkaicfcidaaPeW
import Derived.Deep.DeepMust
set_option linter.unusedVariables false
set_option linter.unusedSimpArgs false
namespace Go.Proofs.Ytnpohkaicfcidaa
open Go.RowKit Go.Shelf
attribute [local go_sem] Oper.semAt_some

theorem notCells {w : World} {k : Nat} {cs : Array Value} {t : TypeId} {f : Nat × Nat} (h : w.heap[k]? = some (.cells cs t f)) {row : Option Nat} (hr : ∀ r, row = some r → ∃ o : Obj, w.heap[r]? = some o ∧ o.isCells = false) : some k ≠ row := by
  intro e
  obtain ⟨o, ho, hc⟩ := hr k e.symm
  rw [h] at ho
  cases ho
  cases hc
theorem Wr.cellsAt {w : World} {p : Nat} {A : Option Nat} {c : Nat} {bs : List Int} (h : Wr w p A c bs) {k : Nat} (hk : Fp p A k) : ∃ cs t, w.heap[k]? = some (.cells cs t (0, 0)) := by
  rcases hk with rfl | rfl
  · exact ⟨_, _, h.hp⟩
  · obtain ⟨cur, h1, _⟩ := h.row.row
    exact ⟨_, _, h1⟩
theorem Wr.turn {w w' : World} {p : Nat} {A : Option Nat} {c : Nat} {bs : List Int} (h : Wr w p A c bs) {row : Option Nat} (hg : w.grownBy w' row) (hr : ∀ r, row = some r → ∃ o : Obj, w.heap[r]? = some o ∧ o.isCells = false) : Wr w' p A c bs :=
  h.ch (Ch.of_grown (S := fun k => row = some k) hg (fun k e => e)) (fun k hk e => by
    obtain ⟨cs, t, h1⟩ := h.cellsAt hk
    exact notCells h1 hr e.symm)
theorem keepsOthers_of_ch {S : Nat → Prop} {w w' : World} (h : Ch S w w') (hS : ∀ k, S k → ∃ cs t, w.heap[k]? = some (.cells cs t (0, 0))) : KeepsOthers w w' :=
  ⟨h.size, fun k o hk ho => (h.block k (Array.getElem?_eq_some_iff.1 hk).1 (fun e => by
    obtain ⟨cs, t, h1⟩ := hS k e
    rw [h1] at hk
    cases hk
    cases ho)).trans hk⟩
theorem shr_zero (v : Int) (wd : Nat) (hv : 0 ≤ v) (hf : v < ((2 ^ wd : Nat) : Int)) : v / 2 ^ wd = 0 := by
  have e : ((2 ^ wd : Nat) : Int) = 2 ^ wd := by simp
  rw [← e]
  exact Int.ediv_eq_zero_of_lt hv hf

set_option maxRecDepth 100000 in
set_option maxHeartbeats 4000000 in
theorem put_yes {w : World} {p : Nat} {A : Option Nat} {c : Nat} {bs : List Int} (h : Wr w p A c bs) (v : Int) (hv : 0 ≤ v) (hv' : v ≤ 4294967295) (wd : Nat) (hw : wd ≤ 32) (hf : v < ((2 ^ wd : Nat) : Int)) (hs1 : bs.length + wd ≤ 1000000) :
    Calls Try.prog 17 #[.pointer (some ⟨p, 0, none⟩), .int .u32 v, .int .i64 wd] w fun e w' => e = .returned (.bool true) ∧ ∃ A' c', Wr w' p A' c' (bs ++ bitsV v wd) ∧ Ch (Fp p A) w w' ∧ (∀ g, A' = some g → A = some g ∨ w.heap.size ≤ g) := by
  have HV := Lib.hid (uptoV_all v wd)
  have hz := shr_zero v wd hv hf
  have d1 : (v / 2 ^ wd != 0) = false := by rw [hz]; rfl
  clear hz
  refine (callsIn_wide (n := 5)).1 ?_
  have h1 : 1 ≤ 5 := by omega
  refine callsIn_of_wp_marks Try.func17 rfl trivial ?_ rfl
  simp only [Try.ntmps17, List.size_toArray, List.length_cons, List.length_nil, Nat.reduceAdd, Nat.reduceSub, Array.replicate_succ, Array.replicate_zero, List.push_toArray, List.append_toArray, List.nil_append, List.cons_append]
  gi_wp2_with (first
    | (refine ⟨trivial, ?_⟩; gi_at_call 31; go_must (refine (callsIn_wide.2 (isWidth_yes wd _ (by omega) (by omega))).mono ?_; rintro e w' ⟨rfl, rfl⟩))
    | (refine ⟨trivial, ?_⟩; gi_at_call 32; go_must (refine (wbitsOf_in Fence.wide (5 - 1) trivial rfl v wd _).mono ?_; rintro e w' ⟨rfl, rfl⟩)))
  have hlt0 : ∀ {k : Nat}, Fp p A k → k < w.heap.size := h.fpLt
  have bV := Boxed.new w 37 (.pointer (some ⟨p, 0, none⟩))
  have bB := Boxed.new (w.alloc (.cells #[.pointer (some ⟨p, 0, none⟩)] 37)) 41 (.int .u32 v)
  have bA := Boxed.new ((w.alloc (.cells #[.pointer (some ⟨p, 0, none⟩)] 37)).alloc (.cells #[.int .u32 v] 41)) 3 (.int .i64 wd)
  have bV' := (bV.alloc (.cells #[.int .u32 v] 41)).alloc (.cells #[.int .i64 wd] 3)
  have bB' := bB.alloc (.cells #[.int .i64 wd] 3)
  have hW := ((h.alloc (.cells #[.pointer (some ⟨p, 0, none⟩)] 37)).alloc (.cells #[.int .u32 v] 41)).alloc (.cells #[.int .i64 wd] 3)
  have hB0 : Below w.heap.size w (((w.alloc (.cells #[.pointer (some ⟨p, 0, none⟩)] 37)).alloc (.cells #[.int .u32 v] 41)).alloc (.cells #[.int .i64 wd] 3)) :=
    (((Below.refl _ w).alloc (Nat.le_refl _) _).alloc (by simp) _).alloc (by simp; omega) _
  have hz : (((w.alloc (.cells #[.pointer (some ⟨p, 0, none⟩)] 37)).alloc (.cells #[.int .u32 v] 41)).alloc (.cells #[.int .i64 wd] 3)).heap.size = w.heap.size + 3 := by simp
  simp only [World.size_alloc] at bV' bB' bA
  generalize (((w.alloc (.cells #[.pointer (some ⟨p, 0, none⟩)] 37)).alloc (.cells #[.int .u32 v] 41)).alloc (.cells #[.int .i64 wd] 3)) = W0 at *
  refine wpIn_rangeFunc_ownG rfl h1 (gf := 39) (lb := #[.pointer (some ⟨w.heap.size + 1 + 1, 0, none⟩), .pointer (some ⟨w.heap.size + 1, 0, none⟩)]) rfl trivial (enters_of Try.func39 (by kernel_rfl) rfl)
    (wbitsOf_stops Fence.wide (5 - 1) trivial rfl (by omega) (w.heap.size + 1) (w.heap.size + 1 + 1) (w.heap.size + 1) (w.heap.size + 3) v hv hv' wd hw (by omega) (by omega) (by omega) (by omega) W0 (by omega) bB'.cell bA.cell)
    kpB_t (kpB_b (by omega) (by omega)) (Below.refl _ _) (fun _ => rfl)
    (fun pre W => (∃ A' c', Wr W p A' c' (bs ++ pre.map (·.1)) ∧ (∀ g, A' = some g → A = some g ∨ w.heap.size + 3 ≤ g)) ∧ Boxed W w.heap.size 37 (.pointer (some ⟨p, 0, none⟩)) ∧ Ch (Fp p A) W0 W)
    (fun _ _ _ => False)
    (fun s X Y row hs hg hr => ⟨by
        obtain ⟨⟨A', c', e1, e2⟩, _⟩ := hs
        exact ⟨A', c', e1.turn hg (fun r e => (hr r e).2), e2⟩, hs.2.1.kept hg (notCells hs.2.1 (fun r e => (hr r e).2)), hs.2.2.grown hg (fun g e => .inr (hr g e).1)⟩)
    (fun _ _ _ _ _ hs _ _ => hs)
    ⟨⟨A, c, by simpa using hW, fun g e => .inl e⟩, bV', Ch.refl _ _⟩
    (fun x => _) (fun l x W K hK => by gi_wp2; exact hK) ?body ?done ?stop
  case body =>
    rintro l pre x W ⟨⟨A', c', hw1, hA⟩, hv, hC⟩ hlen
    have hc := hv.cell
    have hsz := hC.size
    have hnotin : ∀ k, w.heap.size ≤ k → k < w.heap.size + 3 → ¬ Fp p A' k := by
      rintro k h1 h2 (rfl | h3)
      · have := hlt0 (.inl rfl); omega
      · rcases hA k h3 with h4 | h4
        · have := hlt0 (.inr h4); omega
        · omega
    gi_wp2_with (refine ⟨trivial, ?_⟩; gi_at_call 33; go_must (refine (CallsIn.inRound l (callsIn_wide.2 (add_call hw1 x.1 x.2 (by simp; omega)))).mono ?_; rintro e W1 ⟨⟨u, rfl⟩, A1, c1, hw2, hC1, hA1⟩))
    refine ⟨(keepsOthers_of_ch hC1 (fun k hk => hw1.cellsAt hk)).from _, ⟨⟨hC1.os, hC1.tape, hC1.output, hC1.size, fun k hk => absurd hk (by omega)⟩, fun k h3 h4 => hC1.block k (by omega) (hnotin k (by omega) (by omega))⟩, ⟨A1, c1, by simpa using hw2, fun g e => ?_⟩, ?_, hC.trans hC1 (fun k hk e => ?_)⟩
    · rcases hA1 g e with h3 | h3
      · exact hA g h3
      · exact .inr (by omega)
    · exact (hC1.heap hv (hnotin _ (Nat.le_refl _) (by omega)))
    · rcases e with e | e
      · exact .inl e
      · rcases hA k e with h3 | h3
        · exact .inr h3
        · omega
  case done =>
    rintro D ys W hD rfl ⟨⟨A', c', hw1, hA⟩, hv, hC⟩ hK
    gi_wp2
    refine ⟨by simp, .inl ⟨_, _, rfl, run_takeDeferred hK, ?_⟩⟩
    rw [HV.out] at hw1
    have hCe : Ch (Fp p A) w (W.putObj D (.deferred none)) := ((Ch.of_below' hB0 (Nat.le_refl _)).trans hC (fun _ _ e => e)).grown (grownBy_putObj' W D _) (fun g e => by injection e with e; exact .inr (by omega))
    exact ⟨_, results_tmp rfl _ _ _, rfl, A', c', hw1.turn (grownBy_putObj' W D _) (fun r e => by injection e with e; subst e; exact ⟨_, hK, rfl⟩), hCe, fun g e => (hA g e).imp id (fun h => by omega)⟩
  case stop =>
    rintro D c pre W hD _ h _
    exact h.elim

set_option maxHeartbeats 400000 in
theorem put_no (w : World) (p : Nat) (v wd : Int) (hv : 0 ≤ v) (hv' : v ≤ 4294967295) (h : ¬ (0 ≤ wd ∧ wd ≤ 32 ∧ v < ((2 ^ wd.toNat : Nat) : Int))) :
    Calls Try.prog 17 #[.pointer (some ⟨p, 0, none⟩), .int .u32 v, .int .i64 wd] w fun e w' => e = .returned (.bool false) ∧ Below w.heap.size w w' := by
  by_cases h1 : 0 ≤ wd ∧ wd ≤ 32
  · obtain ⟨n, rfl⟩ := Int.eq_ofNat_of_zero_le h1.1
    have hn : n ≤ 32 := by omega
    have hf : ¬ v < ((2 ^ n : Nat) : Int) := fun e => h ⟨h1.1, h1.2, by simpa using e⟩
    have d1 : (v / 2 ^ n != 0) = true := by
      have e : ((2 ^ n : Nat) : Int) = 2 ^ n := by simp
      rw [← e, bne_iff_ne]
      intro e2
      have h3 : 0 < ((2 ^ n : Nat) : Int) := by have := Nat.two_pow_pos n; omega
      have := Int.lt_ediv_add_one_mul_self v h3
      rw [e2] at this
      omega
    obtain ⟨h2, h3⟩ := h1
    clear h hf
    go_enter Try.func17, Try.ntmps17
    go_wp2_with (go_at_call 31; go_must (refine (isWidth_yes n _ h2 h3).mono ?_; rintro e w' ⟨rfl, rfl⟩))
    go_ret
    exact ⟨rfl, (Below.refl _ _).alloc (Nat.le_refl _) _⟩
  · clear h
    go_enter Try.func17, Try.ntmps17
    go_wp2_with (go_at_call 31; go_must (refine (isWidth_no wd _ h1).mono ?_; rintro e w' ⟨rfl, rfl⟩))
    go_ret
    exact ⟨rfl, (Below.refl _ _).alloc (Nat.le_refl _) _⟩

theorem put_nil (w : World) (v wd : Int) :
    Calls Try.prog 17 #[.pointer none, .int .u32 v, .int .i64 wd] w fun e w' => e = .returned (.bool false) ∧ Below w.heap.size w w' := by
  go_enter Try.func17, Try.ntmps17
  go_wp2
  go_ret
  exact ⟨rfl, (Below.refl _ _).alloc (Nat.le_refl _) _⟩

/-- A writer whose blocks are not below B. -/
structure WrB (B : Nat) (w : World) (p : Nat) (A : Option Nat) (c : Nat) (bs : List Int) : Prop where
  wr : Wr w p A c bs
  fp : ∀ k, Fp p A k → B ≤ k
  sz : B ≤ w.heap.size
theorem WrB.below {B : Nat} {w w' : World} {p : Nat} {A : Option Nat} {c : Nat} {bs : List Int} (h : WrB B w p A c bs) (hb : Below w.heap.size w w') : WrB B w' p A c bs := ⟨h.wr.below hb, h.fp, Nat.le_trans h.sz hb.size⟩
theorem WrB.drew {B : Nat} {w : World} {p : Nat} {A : Option Nat} {c : Nat} {bs : List Int} (h : WrB B w p A c bs) : WrB B w.drew p A c bs := ⟨h.wr.drew, h.fp, h.sz⟩
theorem WrB.alloc {B : Nat} {w : World} {p : Nat} {A : Option Nat} {c : Nat} {bs : List Int} (h : WrB B w p A c bs) (o : Obj) : WrB B (w.alloc o) p A c bs := h.below ((Below.refl _ _).alloc (Nat.le_refl _) _)
theorem newB (B : Nat) (w : World) (hB : B ≤ w.heap.size) :
    Calls Try.prog 15 #[] w fun e w' => e = .returned (.pointer (some ⟨w.heap.size, 0, none⟩)) ∧ WrB B w' w.heap.size none 0 [] ∧ Below w.heap.size w w' :=
  (wnew_call w).mono fun e w' ⟨h1, h2, h3⟩ => ⟨h1, ⟨h2, fun k hk => by (rcases hk with rfl | hk); (exact hB); (cases hk), Nat.le_trans hB h3.size⟩, h3⟩
theorem putB {B : Nat} {w : World} {p : Nat} {A : Option Nat} {c : Nat} {bs : List Int} (h : WrB B w p A c bs) (v : Int) (hv : 0 ≤ v) (hv' : v ≤ 4294967295) (wd : Nat) (hw : wd ≤ 32) (hf : v < ((2 ^ wd : Nat) : Int)) (hs1 : bs.length + wd ≤ 1000000) (bs' : List Int) (hbs : bs ++ bitsV v wd = bs') :
    Calls Try.prog 17 #[.pointer (some ⟨p, 0, none⟩), .int .u32 v, .int .i64 wd] w fun e w' => e = .returned (.bool true) ∧ ∃ A' c', WrB B w' p A' c' bs' ∧ Below B w w' :=
  (put_yes h.wr v hv hv' wd hw hf hs1).mono fun e w' ⟨h1, A', c', h2, h3, h4⟩ => ⟨h1, A', c', ⟨by rw [← hbs]; exact h2, fun k hk => by
    rcases hk with rfl | hk
    · exact h.fp _ (.inl rfl)
    · rcases h4 k hk with h5 | h5
      · exact h.fp _ (.inr h5)
      · exact Nat.le_trans h.sz h5, Nat.le_trans h.sz h3.size⟩, h3.below h.sz h.fp⟩
/-- The bytes of a writer, and their string. -/
theorem bytesB {B : Nat} {w : World} {p : Nat} {A : Option Nat} {c : Nat} {bs : List Int} (h : WrB B w p A c bs) (n : Nat) (hn : (bs.length + 7) / 8 = n) (l : List Int) (hl : packB bs = l) :
    Calls Try.prog 21 #[.pointer (some ⟨p, 0, none⟩)] w fun e w' => ∃ g : Nat, e = .returned (.slice (some ⟨g, 0, none⟩) n n) ∧
      w'.heap[g]? = some (.cells (icells .u8 l) 5 (0, 0)) ∧ (convert 25 9 (.slice (some ⟨g, 0, none⟩) n n)).run Try.prog w' = .ok (.string (bstr l)) w' ∧ Below w.heap.size w w' := by
  subst hn
  subst hl
  exact (wbytes_call h.wr).mono fun e w' ⟨g, h1, h2, h3, h4⟩ => ⟨g, h1, h3, run_bstr (P := Try.prog) sliceT byteT strT w' _ _ _ _ (packB_length _) (Src.whole h3), h4⟩
end Go.Proofs.Ytnpohkaicfcidaa
