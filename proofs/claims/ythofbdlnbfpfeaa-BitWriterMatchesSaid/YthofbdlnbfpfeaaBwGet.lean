/- Package bitwriter: Get and Of. -/
import Derived.Test.YthofbdlnbfpfeaaBwIt
set_option linter.unusedVariables false
set_option linter.unusedSimpArgs false
namespace Go.Proofs.Ythofbdlnbfpfeaa
open Go.RowKit Go.Shelf
attribute [local go_sem] Oper.semAt_some

theorem isWidth_yes (wd : Int) (w : World) (h0 : 0 ≤ wd) (h1 : wd ≤ 32) :
    Calls Try.prog 23 #[.int .i64 wd] w fun e w' => e = .returned (.bool true) ∧ w = w' := by
  have d0 : decide (0 ≤ wd) = true := by simpa using h0
  have d1 : decide (wd ≤ 32) = true := by simpa using h1
  go_enter Try.func23, Try.ntmps23
  go_wp2
  go_ret
  exact ⟨rfl, rfl⟩
theorem isWidth_no (wd : Int) (w : World) (h : ¬ (0 ≤ wd ∧ wd ≤ 32)) :
    Calls Try.prog 23 #[.int .i64 wd] w fun e w' => e = .returned (.bool false) ∧ w = w' := by
  by_cases h0 : 0 ≤ wd
  · have d0 : decide (0 ≤ wd) = true := by simpa using h0
    have d1 : decide (wd ≤ 32) = false := by simp; omega
    clear h
    go_enter Try.func23, Try.ntmps23
    go_wp2
    go_ret
    exact ⟨rfl, rfl⟩
  · have d0 : decide (0 ≤ wd) = false := by simpa using h0
    clear h
    go_enter Try.func23, Try.ntmps23
    go_wp2
    go_ret
    exact ⟨rfl, rfl⟩

theorem get_no (w : World) (sp : Option Addr) (len cap : Nat) (at_ wd : Int) (h63 : 8 * len ≤ 9223372036854775807) (hat : at_ ≤ 9223372036854775807) (h : ¬ (0 ≤ wd ∧ wd ≤ 32 ∧ 0 ≤ at_ ∧ at_ + wd ≤ 8 * len)) :
    Calls Try.prog 15 #[.slice sp len cap, .int .i64 at_, .int .i64 wd] w fun e w' => e = .returned (.tuple #[.int .u32 0, .bool false]) ∧ w = w' := by
  by_cases h1 : 0 ≤ wd ∧ wd ≤ 32
  · by_cases h2 : 0 ≤ at_
    · have d1 : decide (at_ < 0) = false := by simpa using h2
      have d2 : decide (8 * (len : Int) - at_ < wd) = true := by simp; omega
      obtain ⟨h3, h4⟩ := h1
      clear h
      go_enter Try.func15, Try.ntmps15
      go_wp2_with (go_at_call 23; refine (isWidth_yes wd _ h3 h4).mono ?_; rintro e w' ⟨rfl, rfl⟩)
      go_ret2
      exact ⟨rfl, rfl⟩
    · have d1 : decide (at_ < 0) = true := by simp; omega
      obtain ⟨h3, h4⟩ := h1
      clear h
      go_enter Try.func15, Try.ntmps15
      go_wp2_with (go_at_call 23; refine (isWidth_yes wd _ h3 h4).mono ?_; rintro e w' ⟨rfl, rfl⟩)
      go_ret2
      exact ⟨rfl, rfl⟩
  · clear h
    go_enter Try.func15, Try.ntmps15
    go_wp2_with (go_at_call 23; refine (isWidth_no wd _ h1).mono ?_; rintro e w' ⟨rfl, rfl⟩)
    go_ret2
    exact ⟨rfl, rfl⟩

theorem or_bit32 (v x : Int) (hv : 0 ≤ v) (hv' : v < 2147483648) (hx : x = 0 ∨ x = 1) : bits .or .u32 (v * 2) x = 2 * v + x := by
  obtain ⟨V, rfl⟩ := Int.eq_ofNat_of_zero_le hv
  obtain ⟨X, rfl⟩ : ∃ X : Nat, x = (X : Int) := ⟨x.toNat, by omega⟩
  have h3 := Nat.two_pow_add_eq_or_of_lt (show X < 2 ^ 1 by omega) V
  rw [show ((V : Int) * 2) = ((2 ^ 1 * V : Nat) : Int) by omega, u32_or_nat (2 ^ 1 * V) X (by omega) (by omega), ← h3]
  omega
theorem pre_bin (pre : List Bit) : Bin (pre.map (·.1)) := fun x hx => by
  simp only [List.mem_map] at hx
  obtain ⟨y, _, rfl⟩ := hx
  exact y.2

set_option maxRecDepth 100000 in
set_option maxHeartbeats 2000000 in
theorem get_yes (w : World) (sp : Option Addr) (len cap : Nat) (l : List Int) (hl : l.length = len) (hS : Src w .u8 sp l) (hby : ∀ x ∈ l, 0 ≤ x ∧ x ≤ 255) (at_ wd : Nat) (hw : wd ≤ 32) (ham : at_ + wd ≤ 8 * len) (h63 : 8 * len ≤ 9223372036854775807) :
    Calls Try.prog 15 #[.slice sp len cap, .int .i64 at_, .int .i64 wd] w fun e w' => e = .returned (.tuple #[.int .u32 (valV (((bitsB l).drop at_).take wd)), .bool true]) ∧ Below w.heap.size w w' := by
  have HV := Lib.hid (uptoB_all l at_ wd (by omega))
  have hlt := fun h0 => hS.lt (by rw [hl]; exact h0)
  refine (callsIn_wide (n := 5)).1 ?_
  have h1 : 1 ≤ 5 := by omega
  have d1 : decide ((at_ : Int) < 0) = false := by simp
  have d2 : decide (8 * (len : Int) - at_ < wd) = false := by simp; omega
  refine callsIn_of_wp_marks Try.func15 rfl trivial ?_ rfl
  simp only [Try.ntmps15, List.size_toArray, List.length_cons, List.length_nil, Nat.reduceAdd, Nat.reduceSub, Array.replicate_succ, Array.replicate_zero, List.push_toArray, List.append_toArray, List.nil_append, List.cons_append]
  gi_wp2_with (first
    | (refine ⟨trivial, ?_⟩; gi_at_call 23; refine (callsIn_wide.2 (isWidth_yes wd _ (by omega) (by omega))).mono ?_; rintro e w' ⟨rfl, rfl⟩)
    | (refine ⟨trivial, ?_⟩; gi_at_call 24; refine (bitsIn_in Fence.wide (5 - 1) trivial rfl sp len cap at_ wd _).mono ?_; rintro e w' ⟨rfl, rfl⟩))
  have bV := Boxed.new w 33 (.int .u32 0)
  have bB := Boxed.new (w.alloc (.cells #[.int .u32 0] 33)) 23 (.slice sp len cap)
  have bA := Boxed.new ((w.alloc (.cells #[.int .u32 0] 33)).alloc (.cells #[.slice sp len cap] 23)) 3 (.int .i64 at_)
  have bM := Boxed.new (((w.alloc (.cells #[.int .u32 0] 33)).alloc (.cells #[.slice sp len cap] 23)).alloc (.cells #[.int .i64 at_] 3)) 3 (.int .i64 wd)
  have bV' := ((bV.alloc (.cells #[.slice sp len cap] 23)).alloc (.cells #[.int .i64 at_] 3)).alloc (.cells #[.int .i64 wd] 3)
  have bB' := (bB.alloc (.cells #[.int .i64 at_] 3)).alloc (.cells #[.int .i64 wd] 3)
  have bA' := bA.alloc (.cells #[.int .i64 wd] 3)
  have hB0 : Below w.heap.size w ((((w.alloc (.cells #[.int .u32 0] 33)).alloc (.cells #[.slice sp len cap] 23)).alloc (.cells #[.int .i64 at_] 3)).alloc (.cells #[.int .i64 wd] 3)) :=
    ((((Below.refl _ w).alloc (Nat.le_refl _) _).alloc (by simp) _).alloc (by simp; omega) _).alloc (by simp; omega) _
  have hz : ((((w.alloc (.cells #[.int .u32 0] 33)).alloc (.cells #[.slice sp len cap] 23)).alloc (.cells #[.int .i64 at_] 3)).alloc (.cells #[.int .i64 wd] 3)).heap.size = w.heap.size + 4 := by simp
  have hS' := hS.below hB0
  simp only [World.size_alloc] at bB' bA' bM
  generalize ((((w.alloc (.cells #[.int .u32 0] 33)).alloc (.cells #[.slice sp len cap] 23)).alloc (.cells #[.int .i64 at_] 3)).alloc (.cells #[.int .i64 wd] 3)) = W0 at *
  refine wpIn_rangeFunc_ownG rfl h1 (gf := 27) (lb := #[.pointer (some ⟨w.heap.size + 1 + 1, 0, none⟩), .pointer (some ⟨w.heap.size + 1 + 2, 0, none⟩), .pointer (some ⟨w.heap.size + 1, 0, none⟩)]) rfl trivial (enters_of Try.func27 (by kernel_rfl) rfl)
    (bitsIn_stops Fence.wide (5 - 1) trivial rfl (by omega) (w.heap.size + 1) (w.heap.size + 1 + 1) (w.heap.size + 1 + 2) w.heap.size (w.heap.size + 1) (w.heap.size + 4) sp len cap l hl hby hlt at_ wd ham h63 (by omega) (by omega) (by omega) (by omega) (by omega) (by omega) W0 (by omega) (by omega) bB'.cell bA'.cell bM.cell hS')
    kpB_t (kpB_b (by omega) (by omega)) (Below.refl _ _) (fun _ => rfl)
    (fun pre W => Boxed W w.heap.size 33 (.int .u32 (valV (pre.map (·.1)))) ∧ Below w.heap.size w W)
    (fun _ _ _ => False)
    (OwnFrom.and (Own.from (fun s A B row hs hg hr => hs.kept hg (fun e => by obtain ⟨o, ho, hc⟩ := hr _ e.symm; rw [show A.heap[w.heap.size]? = _ from hs] at ho; cases ho; cases hc)) _) (ownFrom_below (Nat.le_refl _) (by omega)))
    (fun _ _ _ _ _ hs _ _ => hs)
    ⟨bV', hB0⟩
    (fun x => _) (fun l x W K hK => by gi_wp2; exact hK) ?body ?done ?stop
  case body =>
    rintro l pre x W ⟨hv, hB⟩ hlen
    have hvb := valV_bd _ (pre_bin pre)
    rw [List.length_map] at hvb
    have hp2 : 2 ^ pre.length ≤ 2 ^ 31 := Nat.pow_le_pow_right (by omega) (by omega)
    have hsn := valV_snoc (pre.map (·.1)) x.1
    obtain ⟨v, hve⟩ : ∃ v, v = valV (pre.map (·.1)) := ⟨_, rfl⟩
    rw [← hve] at hv hvb hsn
    obtain ⟨hv0, hv1⟩ := hvb
    have hv2 : v < 2147483648 := by omega
    rw [← or_bit32 v x.1 hv0 hv2 x.2] at hsn
    have HV2 := Lib.hid hsn
    have HB := Lib.hid hv
    have hc := hv.cell
    have hfz := hv.frozen
    clear hve hsn hv hp2 hv1
    gi_wp2
    refine ⟨(KeepsOthers.setCell _ _ _).from _, ⟨(Below.refl _ _).setCell (p := ⟨w.heap.size, 0, none⟩) (Nat.le_refl _) _, fun k h3 h4 => Below.heap_setCell _ _ _ _ (by simp; omega)⟩, ?_, hB.setCell (p := ⟨w.heap.size, 0, none⟩) (Nat.le_refl _) _⟩
    rw [List.map_append, List.map_singleton, HV2.out]
    exact HB.out.set _
  case done =>
    rintro D ys W hD rfl ⟨hv, hB⟩ hK
    have hc := hv.cell
    gi_wp2
    refine ⟨by simp, .inl ⟨_, _, rfl, run_takeDeferred hK, ?_⟩⟩
    refine ⟨_, results_tmp2 rfl _ _ _, ?_, hB.trans (belowK_b (w := w) (Nat.le_refl _) W D _ _ (by omega) hK rfl rfl)⟩
    rw [HV.out]
    rfl
  case stop =>
    rintro D c pre W hD _ h _
    exact h.elim

theorem intI : (Try.prog.info? 3).map (fun i => (i.zero, i.size, i.bytes)) = some (some (.int .i64 0), 1, 8) := by kernel_rfl
theorem byteI : (Try.prog.info? 5).map (fun i => (i.zero, i.size, i.bytes)) = some (some (.int .u8 0), 1, 1) := by kernel_rfl

theorem ownS_new (w : World) (k : IntKind) (E : TypeId) (cur : Array Value) (c : Nat) (hc : cur.size = c) (hm : c ≤ maxLen) : (w.alloc (.cells cur E)).ownsRow 0 E 1 (.slice (some ⟨w.heap.size, 0, none⟩) 0 c) 0 [] :=
  World.ownsRow_made w cur c (Nat.zero_le _) hm (by omega)
theorem row_cells {w : World} {b : Nat} {E : TypeId} {g n c : Nat} {xs : List Value} (h : w.ownsRow b E 1 (.slice (some ⟨g, 0, none⟩) n c) n xs) : ∃ cur, w.heap[g]? = some (.cells cur E (0, 0)) := by
  rcases h.2 with ⟨h1, _⟩ | ⟨g', cap, cur, h1, _, h2, _⟩
  · cases h1
  · simp only [Value.slice.injEq, Option.some.injEq, Addr.mk.injEq] at h1
    obtain ⟨⟨rfl, _⟩, _⟩ := h1
    exact ⟨cur, h2⟩

set_option maxRecDepth 100000 in
set_option maxHeartbeats 2000000 in
theorem of_call (w : World) (sp : Option Addr) (len cap : Nat) (l : List Int) (hl : l.length = len) (hS : Src w .u8 sp l) (hby : ∀ x ∈ l, 0 ≤ x ∧ x ≤ 255) (h20 : len ≤ 1048576) :
    Calls Try.prog 18 #[.slice sp len cap] w fun e w' => ∃ A c, e = .returned (.slice (ad0 A) (8 * len) c) ∧ OwnS w' .i64 3 A c (bitsB l) ∧ (∀ g, A = some g → w.heap.size ≤ g) ∧ Below w.heap.size w w' := by
  have HV := Lib.hid (uptoB_all l 0 (8 * len) (by omega))
  have hlt := fun h0 => hS.lt (by rw [hl]; exact h0)
  obtain ⟨i0, hi, hz0, hz1, hz2⟩ := info_parts intI
  refine (callsIn_wide (n := 5)).1 ?_
  have h1 : 1 ≤ 5 := by omega
  have hmk : ∀ W : World, (Instr.makeSlice 28 (.int .i64 0) (.int .i64 (8 * (len : Int)))).run Try.prog W = .ok (.slice (some ⟨W.heap.size, 0, none⟩) 0 (8 * len)) (W.alloc (.cells (icells .i64 (List.replicate (8 * len) 0)) 3)) := by
    intro W
    have := run_makeIc (P := Try.prog) (b := 8) Try.underlying28 intI .i64 .i64 0 (8 * len) (by omega) (by omega) (by omega) W
    rwa [show ((8 * len : Nat) : Int) = 8 * (len : Int) by omega] at this
  refine callsIn_of_wp_marks Try.func18 rfl trivial ?_ rfl
  simp only [Try.ntmps18, List.size_toArray, List.length_cons, List.length_nil, Nat.reduceAdd, Nat.reduceSub, Array.replicate_succ, Array.replicate_zero, List.push_toArray, List.append_toArray, List.nil_append, List.cons_append]
  gi_wp2_with (refine ⟨trivial, ?_⟩; gi_at_call 24; refine (bitsIn_in Fence.wide (5 - 1) trivial rfl sp len cap 0 (8 * len) _).mono ?_; rintro e w' ⟨rfl, rfl⟩)
  have bR := ownS_new w .i64 3 (icells .i64 (List.replicate (8 * len) 0)) (8 * len) (by simp [icells]) (by unfold maxLen; omega)
  generalize hw1 : w.alloc (.cells (icells .i64 (List.replicate (8 * len) 0)) 3) = w1 at *
  have hs1 : w1.heap.size = w.heap.size + 1 := by rw [← hw1]; simp
  have hb1 : Below w.heap.size w w1 := by rw [← hw1]; exact (Below.refl _ _).alloc (Nat.le_refl _) _
  clear hw1
  have bV := Boxed.new w1 28 (.slice (some ⟨w.heap.size, 0, none⟩) 0 (8 * len))
  have bB := Boxed.new (w1.alloc (.cells #[.slice (some ⟨w.heap.size, 0, none⟩) 0 (8 * len)] 28)) 23 (.slice sp len cap)
  have bA := Boxed.new ((w1.alloc (.cells #[.slice (some ⟨w.heap.size, 0, none⟩) 0 (8 * len)] 28)).alloc (.cells #[.slice sp len cap] 23)) 3 (.int .i64 0)
  have bM := Boxed.new (((w1.alloc (.cells #[.slice (some ⟨w.heap.size, 0, none⟩) 0 (8 * len)] 28)).alloc (.cells #[.slice sp len cap] 23)).alloc (.cells #[.int .i64 0] 3)) 3 (.int .i64 (8 * (len : Int)))
  have bV' := ((bV.alloc (.cells #[.slice sp len cap] 23)).alloc (.cells #[.int .i64 0] 3)).alloc (.cells #[.int .i64 (8 * (len : Int))] 3)
  have bB' := (bB.alloc (.cells #[.int .i64 0] 3)).alloc (.cells #[.int .i64 (8 * (len : Int))] 3)
  have bA' := bA.alloc (.cells #[.int .i64 (8 * (len : Int))] 3)
  have bR' := (((bR.alloc (.cells #[.slice (some ⟨w.heap.size, 0, none⟩) 0 (8 * len)] 28)).alloc (.cells #[.slice sp len cap] 23)).alloc (.cells #[.int .i64 0] 3)).alloc (.cells #[.int .i64 (8 * (len : Int))] 3)
  have hB0 : Below w.heap.size w ((((w1.alloc (.cells #[.slice (some ⟨w.heap.size, 0, none⟩) 0 (8 * len)] 28)).alloc (.cells #[.slice sp len cap] 23)).alloc (.cells #[.int .i64 0] 3)).alloc (.cells #[.int .i64 (8 * (len : Int))] 3)) :=
    (((hb1.alloc (by omega) _).alloc (by simp; omega) _).alloc (by simp; omega) _).alloc (by simp; omega) _
  have hz : ((((w1.alloc (.cells #[.slice (some ⟨w.heap.size, 0, none⟩) 0 (8 * len)] 28)).alloc (.cells #[.slice sp len cap] 23)).alloc (.cells #[.int .i64 0] 3)).alloc (.cells #[.int .i64 (8 * (len : Int))] 3)).heap.size = w.heap.size + 5 := by simp; omega
  have hS' := hS.below hB0
  simp only [World.size_alloc, hs1] at bV' bB' bA' bM
  generalize ((((w1.alloc (.cells #[.slice (some ⟨w.heap.size, 0, none⟩) 0 (8 * len)] 28)).alloc (.cells #[.slice sp len cap] 23)).alloc (.cells #[.int .i64 0] 3)).alloc (.cells #[.int .i64 (8 * (len : Int))] 3)) = W0 at *
  refine wpIn_rangeFunc_ownG rfl h1 (gf := 27) (lb := #[.pointer (some ⟨w.heap.size + 1 + 1 + 1, 0, none⟩), .pointer (some ⟨w.heap.size + 1 + 1 + 2, 0, none⟩), .pointer (some ⟨w.heap.size + 1 + 1, 0, none⟩)]) rfl trivial (enters_of Try.func27 (by kernel_rfl) rfl)
    (bitsIn_stops Fence.wide (5 - 1) trivial rfl (by omega) (w.heap.size + 1 + 1) (w.heap.size + 1 + 1 + 1) (w.heap.size + 1 + 1 + 2) w.heap.size (w.heap.size + 2) (w.heap.size + 5) sp len cap l hl hby hlt 0 (8 * len) (by omega) (by omega) (by omega) (by omega) (by omega) (by omega) (by omega) (by omega) W0 (by omega) (by omega) bB'.cell bA'.cell bM.cell hS')
    kpB_t (kpB_b (by omega) (by omega)) (Below.refl _ _) (fun _ => rfl)
    (fun pre W => (Boxed W (w.heap.size + 1) 28 (.slice (some ⟨w.heap.size, 0, none⟩) pre.length (8 * len)) ∧ W.ownsRow 0 3 1 (.slice (some ⟨w.heap.size, 0, none⟩) pre.length (8 * len)) pre.length ((pre.map (·.1)).map (Value.int .i64))) ∧ Below w.heap.size W0 W)
    (fun _ _ _ => False)
    (OwnFrom.and (Own.from (fun s A B row hs hg hr => ⟨hs.1.kept hg (fun e => by obtain ⟨o, ho, hc⟩ := hr _ e.symm; rw [show A.heap[w.heap.size + 1]? = _ from hs.1] at ho; cases ho; cases hc), hs.2.kept hg (.inr (fun e => by
        obtain ⟨o, ho, hc⟩ := hr _ e.symm
        obtain ⟨cur, hcur⟩ := row_cells hs.2
        rw [hcur] at ho
        cases ho
        cases hc))⟩) _) (ownFrom_below (by omega) (by omega)))
    (fun _ _ _ _ _ hs _ _ => hs)
    ⟨⟨bV', bR'⟩, Below.refl _ _⟩
    (fun x => _) (fun l x W K hK => by gi_wp2; exact hK) ?body ?done ?stop
  case body =>
    rintro l pre x W ⟨⟨hv, hrow⟩, hB⟩ hlen
    have hc := hv.cell
    have hsz := hB.size
    have hbox := hv.lt
    gi_wp2_with (gi_at_builtin; refine wpListIn_append_fits _ rfl _ _ 28 rfl 0 3 i0 1 Try.underlying28 hi hz1 w.heap.size pre.length (8 * len) _ rfl (hrow.alloc _) ⟨W.heap.size, 0, none⟩ 1 1 [.int .i64 x.1] rfl rfl (cell_one_new _ _ _) (by simp [Value.oneCell']) (by omega) ?_; intro w1 hown' hgrow; have hv1 := (hv.alloc _).kept hgrow (by simp); have hc1 := hv1.cell; have hf1 := hv1.frozen)
    have hwW : w.heap.size < W.heap.size := by omega
    have hg1 : Below w.heap.size W w1 := ((Below.refl _ _).alloc (by omega) _).grown hgrow (by simp; omega) (fun k e => by injection e with e; omega)
    refine ⟨(((KeepsOthers.alloc W _).trans (KeepsOthers.of_grownBy hgrow fun j o ej hj => ?_)).trans (KeepsOthers.setCell _ _ _)).from _, ⟨hg1.setCell (p := ⟨w.heap.size + 1, 0, none⟩) (by simp) _, fun k h3 h4 => ?_⟩, ⟨?_, ?_⟩, (hB.trans hg1).setCell (p := ⟨w.heap.size + 1, 0, none⟩) (by simp) _⟩
    · injection ej with ej
      subst ej
      obtain ⟨cur, hcur⟩ := row_cells (hrow.alloc (.cells #[.int .i64 x.1] 3))
      rw [hcur] at hj
      cases hj
      rfl
    · have hkW : k < W.heap.size := by have := hv.lt; omega
      rw [Below.heap_setCell _ _ _ _ (by simp; omega), hgrow.block k (by simp; omega) (by simp; omega), Below.heap_alloc _ _ _ hkW]
    · rw [List.length_append, List.length_singleton]
      exact hv1.set _
    · rw [List.length_append, List.length_singleton, List.map_append, List.map_append, List.map_singleton, List.map_singleton]
      exact hown'.kept (grownBy_setCell' w1 _ _) (.inr (by simp [Value.ownBlock]))
  case done =>
    rintro D ys W hD rfl ⟨⟨hv, hrow⟩, hB⟩ hK
    have hc := hv.cell
    gi_wp2
    refine ⟨by simp, .inl ⟨_, _, rfl, run_takeDeferred hK, ?_⟩⟩
    have hr2 := ownsRow_putObj hrow (.deferred none) hK rfl
    have hL : (uptoB l 0 (8 * len)).length = 8 * len := uptoB_length _ _ _
    have hT : ((bitsB l).drop 0).take (8 * len) = bitsB l := by rw [List.drop_zero, List.take_of_length_le (by rw [bitsB_length]; omega)]
    have hLB : (bitsB l).length = 8 * len := by rw [bitsB_length, hl]
    rw [hL, HV.out, hT] at hr2
    refine ⟨_, results_tmp rfl _ _ _, some w.heap.size, 8 * len, ?_, ?_, fun g e => by injection e with e; omega, (hB0.trans hB).trans (belowK_b (w := w) (Nat.le_refl _) W D _ _ (by omega) hK rfl rfl)⟩
    · rw [hL]
      rfl
    · unfold OwnS
      rw [hLB]
      exact hr2
  case stop =>
    rintro D c pre W hD _ h _
    exact h.elim
end Go.Proofs.Ythofbdlnbfpfeaa
