/- mtf: Put (with bytes.IndexByte), Take whole. -/
import Derived.Test.YtaemmeofchonaaaMuD
import Derived.Lib.BytesEntry
import Derived.RegionTactic
set_option linter.unusedVariables false
set_option linter.unusedSimpArgs false
namespace Go.Proofs.Ytaemmeofchonaaa
open Go.RowKit

theorem take_call (l : List Int) (h : Lst l) (p : Int) (w : World) :
    Calls Try.prog 11 #[.agg (ll l), .int .i64 p] w fun e w' => e = .returned (.tuple #[.agg (ll (tkR l p).1), .int .u8 (tkR l p).2.1, .bool (tkR l p).2.2]) ∧ Below w.heap.size w w' := by
  by_cases hp : 0 ≤ p ∧ p ≤ 255
  · obtain ⟨n, rfl⟩ : ∃ n : Nat, p = (n : Int) := ⟨p.toNat, by omega⟩
    rw [show tkR l (n : Int) = (tkV l n, l.getD n 0, true) by unfold tkR; rw [if_pos hp, Int.toNat_natCast]]
    exact take_yes l h n (by omega) w
  · rw [show tkR l p = (l, 0, false) from if_neg hp]
    exact take_no l h p hp w

theorem byte_eq {a c : Int} (ha : 0 ≤ a ∧ a ≤ 255) (hc : 0 ≤ c ∧ c ≤ 255) : (a.toNat.toUInt8 == c.toNat.toUInt8) = decide (a = c) := by
  rw [Bool.eq_iff_iff, beq_iff_eq, decide_eq_true_eq]
  constructor
  · intro e
    have := congrArg UInt8.toNat e
    simp at this
    omega
  · rintro rfl
    rfl
/-- The first index as the library tells it. -/
theorem idx_pos : ∀ (l : List Int) (_ : ∀ x ∈ l, 0 ≤ x ∧ x ≤ 255) (c : Int) (_ : 0 ≤ c ∧ c ≤ 255), Lib.indexByte (Lib.bytesOf l) c.toNat.toUInt8 = match posV l c with | some p => (p : Int) | none => -1
  | [], _, c, _ => rfl
  | a :: l, hl, c, hc => by
    have ih := idx_pos l (fun x hx => hl x (by simp [hx])) c hc
    have ha := hl a (by simp)
    show (if (a.toNat.toUInt8 == c.toNat.toUInt8) then (0 : Int) else if Lib.indexByte (Lib.bytesOf l) c.toNat.toUInt8 == -1 then -1 else Lib.indexByte (Lib.bytesOf l) c.toNat.toUInt8 + 1) = _
    rw [byte_eq ha hc, ih]
    rw [show posV (a :: l) c = if a = c then some 0 else (posV l c).map (· + 1) from rfl]
    by_cases e : a = c
    · rw [if_pos (decide_eq_true e), if_pos e]
      rfl
    · rw [if_neg (by simpa using e), if_neg e]
      cases posV l c with
      | none => rfl
      | some p =>
        show (if ((p : Int) == -1) = true then (-1 : Int) else (p : Int) + 1) = ((p + 1 : Nat) : Int)
        rw [if_neg (by simp)]
        omega

set_option maxHeartbeats 1000000 in
set_option maxRecDepth 100000 in
/-- bytes.IndexByte at a list in memory. -/
theorem index_call (l : List Int) (h : Lst l) (c : Int) (hc : 0 ≤ c ∧ c ≤ 255) (b cap : Nat) (w : World) (hg : w.heap[b]? = some (.cells (ll l) 23 (0, 0))) :
    Calls Try.prog 21 #[.slice (some ⟨b, 0, none⟩) 256 cap, .int .u8 c] w fun e w' => e = .returned (.int .i64 (match posV l c with | some p => (p : Int) | none => -1)) ∧ w' = w := by
  have hcell : ∀ i, i < 256 → w.cell? ⟨b, 0 + i, none⟩ = some (.int .u8 (l.getD i 0)) := fun i hi => by
    rw [Nat.zero_add]
    exact ll_cell hg h i hi
  have hrun := Lib.run_indexByteSlice (P := Try.prog) w b 0 256 cap l h.1 hcell c
  rw [idx_pos l (fun x hx => bounds_u8 (h.2 x hx)) c hc] at hrun
  generalize (match posV l c with | some p => (p : Int) | none => -1) = R at hrun ⊢
  clear hcell
  go_enter Try.func21, Try.ntmps21
  go_wp2
  rw [run_callFunc_extern Try.func23 (by kernel_rfl) (by kernel_rfl) (by kernel_rfl) (e := Extern.BytealgIndexByte.indexByte) (by kernel_rfl), hrun]
  simp only [Result.andThen]
  rw [Oper.upon_value]
  go_wp2
  go_ret
  exact ⟨rfl, rfl⟩

theorem arr_all (g : Nat) (W : World) :
    (Instr.sliceAt 23 (.pointer (some ⟨g, 0, none⟩)) none none none).run Try.prog W = .ok (.slice (some ⟨g, 0, none⟩) 256 256) W := by
  rw [run_sliceAt_array_all W _ _ lst_und, lst_elem, byte_size, lst_arr]
  simp only [Result.andThen_ok, slicedAt]
  rw [if_neg (by omega)]
  simp [Addr.add]

set_option maxRecDepth 100000 in
set_option maxHeartbeats 1000000 in
theorem put_call (l : List Int) (h : Lst l) (c : Int) (hc : 0 ≤ c ∧ c ≤ 255) (w : World) :
    Calls Try.prog 9 #[.agg (ll l), .int .u8 c] w fun e w' => e = .returned (.tuple #[.agg (ll (ptV l c).1), .int .i64 (ptV l c).2]) ∧ Below w.heap.size w w' := by
  have hz := lstZ
  have hg := heap_alloc2_old w (.cells (ll l) 23) (.cells (ll zS) 23)
  have hr := heap_alloc2_new w (.cells (ll l) 23) (.cells (ll zS) 23)
  have HB := Lib.hid (show Below w.heap.size w ((w.alloc (.cells (ll l) 23)).alloc (.cells (ll zS) 23)) from ((Below.refl _ _).alloc (Nat.le_refl _) _).alloc (by simp) _)
  have HIX := Lib.hid (fun W hg => index_call l h c hc w.heap.size 256 W hg)
  have har := fun W => arr_all w.heap.size W
  cases hp : posV l c with
  | none =>
    rw [ptV_none hp]
    rw [hp] at HIX
    clear hp
    have HIX' := Lib.hid (show ∀ W : World, W.heap[w.heap.size]? = some (.cells (ll l) 23 (0, 0)) → Calls Try.prog 21 #[.slice (some ⟨w.heap.size, 0, none⟩) 256 256, .int .u8 c] W fun e w' => e = .returned (.int .i64 (-1)) ∧ w' = W from fun W hg => HIX.out W hg)
    clear HIX
    go_enter Try.func9, Try.ntmps9
    go_upto_region 1 with fail
    clear hz
    generalize (w.alloc (.cells (ll l) 23)).alloc (.cells (ll zS) 23) = w1 at HB hg hr ⊢
    have HG := Lib.hid hg
    clear hg
    go_upto_region 2 with ((with_reducible refine (HIX'.out _ HG.out).mono ?_); rintro e w2 ⟨rfl, rfl⟩)
    have hg := HG.out
    clear har
    go_wp2_with (first
      | (refine wpList_load_row rfl 23 _ rfl w.heap.size rfl 23 (ll l) (0, 0) _ hg Try.underlying23 rfl (lstIk h) ?_)
      | (refine wpList_store_row rfl 23 _ _ rfl (w.heap.size + 1) (ll l) rfl rfl 23 (ll zS) hr (lstIk h) (by rw [ll_size zS_lst, ll_size h]) (ll_all _) ?_))
    refine bodyPost_ret (v := .tuple #[.agg (ll l), .int .i64 (-1)]) ?_ rfl ⟨rfl, HB.out.setRow (by omega) _⟩
    exact results_cell_tmp Try.results9 _ _ (w.heap.size + 1) 23 (ll l) (0, 0) _ _ rfl rfl (setRow_heap _ _ _ _ _ _ hr) Try.underlying23 rfl (lstIk h)
  | some p =>
    have hpl : p < 256 := by have := (posV_is l c p hp).1; rw [h.1] at this; exact this
    rw [ptV_some hp]
    rw [hp] at HIX
    clear hp
    have HIX' := Lib.hid (show ∀ W : World, W.heap[w.heap.size]? = some (.cells (ll l) 23 (0, 0)) → Calls Try.prog 21 #[.slice (some ⟨w.heap.size, 0, none⟩) 256 256, .int .u8 c] W fun e w' => e = .returned (.int .i64 (p : Int)) ∧ w' = W from fun W hg => HIX.out W hg)
    clear HIX
    have HFR := Lib.hid (fun W => front_call l h p hpl W)
    have HTL := Lib.hid (tkV_lst h hpl)
    generalize tkV l p = L at HFR HTL ⊢
    go_enter Try.func9, Try.ntmps9
    go_upto_region 1 with fail
    clear hz
    have hsz : w.heap.size + 2 ≤ ((w.alloc (.cells (ll l) 23)).alloc (.cells (ll zS) 23)).heap.size := by simp
    have HSZ := Lib.hid hsz
    clear hsz
    generalize (w.alloc (.cells (ll l) 23)).alloc (.cells (ll zS) 23) = w1 at HB hg hr HSZ ⊢
    have HG := Lib.hid hg
    have HR := Lib.hid hr
    clear hg hr
    go_upto_region 2 with ((with_reducible refine (HIX'.out _ HG.out).mono ?_); rintro e w2 ⟨rfl, rfl⟩)
    clear har HIX'
    have d0 : decide ((p : Int) < 0) = false := decide_eq_false (by omega)
    go_upto_region 4 with fail
    clear d0
    go_wp2_with (first
      | (refine wpList_load_row rfl 23 _ rfl w.heap.size rfl 23 (ll l) (0, 0) _ HG.out Try.underlying23 rfl (lstIk h) ?_)
      | ((with_reducible refine (HFR.out _).mono ?_)
         rintro e w5 ⟨rfl, hb5⟩
         have hr5 := heap_on hb5 HR.out
         have HB5 := Lib.hid (HB.out.trans (hb5.mono HB.out.size)))
      | (refine wpList_store_row rfl 23 _ _ rfl (w.heap.size + 1) (ll L) rfl rfl 23 (ll zS) hr5 (lstIk HTL.out) (by rw [ll_size zS_lst, ll_size HTL.out]) (ll_all _) ?_))
    have hX := setRow_heap w5 (w.heap.size + 1) _ (ll L) _ _ hr5
    refine bodyPost_ret (v := .tuple #[.agg (ll L), .int .i64 (p : Int)]) ?_ rfl ⟨rfl, HB5.out.setRow (by omega) _⟩
    exact results_cell_tmp Try.results9 _ _ (w.heap.size + 1) 23 (ll L) (0, 0) _ _ rfl rfl hX Try.underlying23 rfl (lstIk HTL.out)
end Go.Proofs.Ytaemmeofchonaaa
