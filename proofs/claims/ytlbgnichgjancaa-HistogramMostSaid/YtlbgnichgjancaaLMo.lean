/- Law HistogramMost. -/
import Derived.Test.YtlbgnichgjancaaWk
set_option linter.unusedVariables false
set_option linter.unusedSimpArgs false
namespace Go.Proofs.Ytlbgnichgjancaa
open Go.RowKit

def tS (s : Nat) : List Int := zT.set s 2147483627
theorem tS_tal (s : Nat) : Tal (tS s) := zT_tal.set s _ (by decide)
theorem tS_get (s i : Nat) (hs : s < 258) : (tS s).getD i 0 = if s = i then 2147483627 else 0 := by
  unfold tS
  rw [List.getD_eq_getElem?_getD, List.getElem?_set]
  by_cases e : s = i
  · subst e
    rw [if_pos rfl, if_pos (by rw [zT_tal.1]; exact hs), if_pos rfl]
    rfl
  · rw [if_neg e, if_neg e, ← List.getD_eq_getElem?_getD, zT_get]
theorem cntN_rep (s k i : Nat) : cntN (List.replicate k (s : Int)) i = if s = i then k else 0 := by
  unfold cntN
  rw [List.countP_replicate]
  simp
theorem rep_sy (s k : Nat) (hs : s < 258) : Sy (List.replicate k (s : Int)) := fun z hz => by
  rw [List.eq_of_mem_replicate hz]
  omega
theorem most_get (s k i : Nat) (hs : s < 258) (hi : i < 258) : (addN (tS s) (List.replicate k (s : Int))).getD i 0 = if s = i then 2147483627 + (k : Int) else 0 := by
  rw [addN_get _ _ i (by rw [(tS_tal s).1]; exact hi), tS_get s i hs, cntN_rep]
  split <;> simp
theorem tS_vt (s : Nat) (hs : s < 258) : VT (tS s) := by
  rw [vt_at _ (tS_tal s).1]
  intro i hi
  rw [tS_get s i hs]
  split <;> omega
theorem most_yes (s k : Nat) (hs : s < 258) (hk : k ≤ 20) : addOk (tS s) (List.replicate k (s : Int)) := by
  refine ⟨tS_vt s hs, rep_sy s k hs, ?_⟩
  rw [vt_at _ (by rw [addN_length]; exact (tS_tal s).1)]
  intro i hi
  rw [most_get s k i hs hi]
  split <;> omega
theorem most_no (s k : Nat) (hs : s < 258) (hk : 20 < k) : ¬ addOk (tS s) (List.replicate k (s : Int)) := by
  rintro ⟨_, _, hv⟩
  have := (hv.get s).2
  rw [most_get s k s hs hs, if_pos rfl] at this
  omega
theorem most_sum (s k : Nat) (hs : s < 258) (hk : k ≤ 20) : sumV (addV (tS s) (List.replicate k (s : Int))) = sumV (tS s) + k := by
  have ho := most_yes s k hs hk
  rw [(add_yes ho).1]
  unfold sumV
  rw [if_pos ho.2.2, if_pos ho.1, addN_sum _ _ (tS_tal s).1 ho.2.1, List.length_replicate]
theorem sumV_bd (l : List Int) (h : Tal l) : 0 ≤ sumV l ∧ sumV l ≤ 554050781184 := by
  unfold sumV
  split
  · rename_i hv
    have := sum_take l hv 258
    rw [List.take_of_length_le (by rw [h.1]; exact Nat.le_refl _)] at this
    omega
  · omega

/-- A whole row loaded by a guarded operation of a drawn region. -/
theorem wanted_load_row {P : Program} {ops : Array Oper} {o : Oper} {a : Act} {w : World} {K : Act → World → Prop} {Q : Exit → Act → World → Prop} (j : Nat) (hgd : o.guard = some (j, true)) (s : Nat) (hs : (ops[j]?).bind (·.dst) = some s) (hv : a.tmps[s]? = some (.bool true)) (_h : True = True)
    (ty : TypeId) (x : Operand) (ho : o.op = .load ty x)
    (g : Nat) (hx : a.eval x = .pointer (some ⟨g, 0, none⟩)) (t : TypeId) (cs : Array Value) (fr : Nat × Nat) (d : TypeDesc) (hg : w.heap[g]? = some (.cells cs t fr))
    (hu : P.underlying ty = some d) (hd : (match d with | .struct _ | .array _ _ => true | _ => false) = true) (hi : (P.info? ty).map (·.size) = some cs.size)
    (h : K (a.put o.dst (.agg cs)) w) : if Region.wanted o (yielded ops a.tmps) = true then Oper.wp P o a w K Q else K (a.put o.dst undef) w := by
  rw [if_pos (by unfold Region.wanted; rw [hgd]; simp [yielded, hs, hv])]
  exact wp_load_row ty x ho g hx t cs fr d hg hu hd hi h
def mostJ (b p r : Value) (S k : Nat) (L T : List Int) (U : Int) : List (Value → World → Prop) :=
  [eqv (.int .i64 0), eqv (.bool true), eqv (.bool true), eqv (.int .i64 S), eqv p, eqv (.int .i64 (2147483627 + k)), eqv (.int .i64 S), eqv r, eqv (.int .i64 2147483627), eqv (.int .i64 k), eqv (.int .i64 (2147483627 + k)), eqv (.bool true), eqv (.bool true), eqv (.bool true),
   eqv (.agg (tl L)), eqv (.int .i64 (U + k)), eqv (.agg (tl T)), eqv (.int .i64 U), eqv (.int .i64 k), eqv (.int .i64 (U + k)), eqv (.bool true), eqv (.bool true), eqv (.bool true), eqv (.bool true), eqv (.bool true), eqv (.bool true)]
theorem mostJ_mono {b p r : Value} {S k : Nat} {L T : List Int} {U : Int} : MonoAll (mostJ b p r S k L T U) := by
  repeat' apply And.intro
  all_goals first | exact eqv_mono _ | trivial

set_option maxRecDepth 100000 in
set_option maxHeartbeats 2000000 in
theorem most_call (s m : Int) (w : World) (hs63 : -9223372036854775808 ≤ s ∧ s ≤ 9223372036854775807) (hm63 : -9223372036854775808 ≤ m ∧ m ≤ 9223372036854775807) :
    Calls Try.prog 6 #[.int .i64 s, .int .i64 m] w fun e w' => e = .returned (.bool true) ∧ Below w.heap.size w w' := by
  have hwk := wakes_call
  by_cases h : 0 ≤ s ∧ s < 258 ∧ 0 ≤ m ∧ m ≤ 40
  · obtain ⟨S, rfl⟩ : ∃ S : Nat, s = S := ⟨s.toNat, by omega⟩
    obtain ⟨M, rfl⟩ : ∃ M : Nat, m = M := ⟨m.toNat, by omega⟩
    have hS : S < 258 := by omega
    have hM : M ≤ 40 := by omega
    clear h hs63 hm63
    have hz := talZ
    go_enter Try.func6, Try.ntmps6
    have cz : (w.alloc (.cells (tl zT) 23)).cell? ⟨w.heap.size, S, none⟩ = some (.int .i64 0) := by
      have := tl_cell (heap_alloc_last w (.cells (tl zT) 23)) zT_tal S hS
      rwa [zT_get] at this
    have cf := frozen_of_row (w.alloc (.cells (tl zT) 23)) w.heap.size S _ _ (heap_alloc_last w _)
    go_upto_region 5 with fail
    rw [tl_set, show zT.set S 2147483627 = tS S from rfl]
    have hg := heap_alloc_last w (.cells (tl (tS S)) 23)
    have hb := below_al w (.cells (tl (tS S)) 23)
    generalize w.alloc (.cells (tl (tS S)) 23) = w1 at hg hb ⊢
    have HB := Lib.hid hb
    have HG := Lib.hid hg
    clear hb hg cz cf
    go_wp2_with fail
    go_loopw [6, 7] (fun sl i wr => ∃ (k : Nat) (a : Option Addr) (c : Nat), k ≤ M ∧ i = .int .i64 k ∧ sl = .slice a k c ∧ NewS w1 wr a c (List.replicate k (S : Int))) (fun _ i _ => M - (intOf i).toNat)
    case atStart => exact ⟨0, none, 0, by omega, rfl, rfl, NewS.nil (Below.refl _ _)⟩
    case round =>
      obtain ⟨k, a, c, hk, rfl, rfl, hN⟩ := hrel
      have HN := Lib.hid hN
      clear hN
      by_cases hlt : k < M
      · have hln : (List.replicate k (S : Int)).length = k := List.length_replicate
        have HLN := Lib.hid hln
        clear hln
        go_wp2_with (
          refine wpList_appendW rfl _ _ 24 rfl 3 .i64 8 intsT intI a c (List.replicate k (S : Int)) k HLN.out rfl (HN.out.alloc _).win (some ⟨wr.heap.size, 0, none⟩) 1 1 rfl [(S : Int)] rfl (Src.one (by simp)) (by unfold maxLen; omega) (by omega) ?_
          intro a2 c2 w4 h1 h2 h3)
        rw [show List.replicate k (S : Int) ++ [(S : Int)] = List.replicate (k + 1) (S : Int) from List.replicate_succ'.symm] at h1
        exact ⟨⟨k + 1, a2, c2, by omega, by go_num, rfl, (HN.out.alloc _).app h1 h2 h3⟩, by simp [intOf]; omega⟩
      · obtain rfl : k = M := by omega
        have hac := add_call (tS S) (tS_tal S) a k c (List.replicate k (S : Int)) wr List.length_replicate HN.out.win.src (by omega)
        have hg2 := heap_on HN.out.bel HG.out
        have HB2 := Lib.hid (HB.out.trans (HN.out.bel.mono HB.out.size))
        have hT := tS_tal S
        have hL := addV_tal hT (List.replicate k (S : Int)) (by rw [List.length_replicate]; omega)
        clear HB HG HN
        by_cases h20 : k ≤ 20
        · have ho := most_yes S k hS h20
          have hL2 := hL
          have HS := Lib.hid (most_sum S k hS h20)
          have hx := most_get S k S hS hS
          rw [if_pos rfl] at hx
          rw [← (add_yes ho).1] at hx
          rw [(add_yes ho).2] at hac
          have hy := tS_get S S hS
          rw [if_pos rfl] at hy
          have hb2 := sumV_bd _ hT
          have hsl := fun w => sum_call _ hL w
          have hst := fun w => sum_call _ hT w
          rw [HS.out] at hsl
          clear HS
          generalize addV (tS S) (List.replicate k (S : Int)) = L at hac hL hx hsl hL2
          have XL := Lib.hid (fun (W : World) (g : Nat) (hg : W.heap[g]? = some (.cells (tl L) 23 (0, 0))) => hx ▸ tl_cell hg hL S hS)
          have XT := Lib.hid (fun (W : World) (g : Nat) (hg : W.heap[g]? = some (.cells (tl (tS S)) 23 (0, 0))) => hy ▸ tl_cell hg hT S hS)
          generalize tS S = T at hac hT hg2 hst XT hb2 hsl
          generalize sumV T = U at hst hb2 hsl
          clear hx hy ho
          go_wp2_with (refine wpList_load_row rfl 23 _ rfl w.heap.size rfl 23 (tl T) (0, 0) _ hg2 Try.underlying23 rfl (talIk hT) ?_)
          refine hac.mono ?_
          rintro e w5 ⟨rfl, hb5⟩
          have HB5 := Lib.hid (HB2.out.trans (hb5.mono HB2.out.size))
          have hg5 := heap_on hb5 hg2
          clear hb5 hac HB2 hg2
          go_upto_region 11 with (refine wpList_store_row rfl 23 _ _ rfl w5.heap.size (tl L) rfl rfl 23 (tl zT) (heap_alloc_last w5 _) (talIk hL) (by rw [tl_size zT_tal, tl_size hL]) (tl_all _) ?_)
          rw [World.setRow_alloc_new]
          have hn6 := heap_alloc_last w5 (.cells (tl L) 23)
          have hl6 := below_al w5 (.cells (tl L) 23)
          generalize w5.alloc (.cells (tl L) 23) = w6 at hn6 hl6 ⊢
          have hg6 := heap_on hl6 hg5
          have HB6 := Lib.hid (HB5.out.trans (hl6.mono HB5.out.size))
          clear hl6 hg5 HB5
          go_upto_region 13 with fail
          -- REGION
          refine wp_region_inv (J := Js (mostJ (.pointer (some ⟨w5.heap.size, 0, none⟩)) (.pointer (some ⟨w5.heap.size, S, none⟩)) (.pointer (some ⟨w.heap.size, S, none⟩)) S k L T U)) (ds := [54, 55, 56, 57, 58, 59, 60, 61, 62, 63, 64, 65, 66, 67, 68, 69, 70, 71, 72, 73, 74, 75, 76, 77, 78, 4]) (N := 79)
            (B := [(0, .int .i64 S), (1, .int .i64 k), (5, .pointer (some ⟨w.heap.size, 0, none⟩)), (8, .pointer (some ⟨w5.heap.size, 0, none⟩)), (9, .int .i64 0)]) (by kernel_rfl) (by kernel_rfl) (Js_mono mostJ_mono) rfl rfl (by simp) ?_ ?_
          · refine ⟨?_, ?_, ?_, ?_, ?_, ?_, ?_, ?_, ?_, ?_, ?_, ?_, ?_, ?_, ?_, ?_, ?_, ?_, ?_, ?_, ?_, ?_, ?_, ?_, ?_, ?_, trivial⟩
            · intro a w' hb hdep K hK
              have c9 := hb.at 4 9 _ rfl
              clear hdep
              go_simp
              exact hK _ _ rfl (Below.refl _ _)
            · intro a w' hb hdep K hK
              obtain ⟨v0, e0, j0⟩ := hdep 0 (by kernel_rfl)
              replace e0 : a.tmps[54]? = some v0 := e0
              obtain rfl : v0 = _ := j0
              clear hdep
              go_simp
              exact hK _ _ rfl (Below.refl _ _)
            · intro a w' hb hdep K hK
              obtain ⟨v1, e1, j1⟩ := hdep 1 (by kernel_rfl)
              replace e1 : a.tmps[55]? = some v1 := e1
              obtain rfl : v1 = _ := j1
              clear hdep
              go_simp
              exact hK _ _ rfl (Below.refl _ _)
            · intro a w' hb hdep K hK
              have c0 := hb.at 0 0 _ rfl
              obtain ⟨v2, e2, j2⟩ := hdep 2 (by kernel_rfl)
              replace e2 : a.tmps[56]? = some v2 := e2
              obtain rfl : v2 = _ := j2
              clear hdep
              go_simp
              exact hK _ _ rfl (Below.refl _ _)
            · intro a w' hb hdep K hK
              have c8 := hb.at 3 8 _ rfl
              obtain ⟨v3, e3, j3⟩ := hdep 3 (by kernel_rfl)
              replace e3 : a.tmps[57]? = some v3 := e3
              obtain rfl : v3 = _ := j3
              obtain ⟨v2, e2, j2⟩ := hdep 2 (by kernel_rfl)
              replace e2 : a.tmps[56]? = some v2 := e2
              obtain rfl : v2 = _ := j2
              clear hdep
              go_simp
              exact hK _ _ rfl (Below.refl _ _)
            · intro a w' hb hdep K hK
              obtain ⟨v4, e4, j4⟩ := hdep 4 (by kernel_rfl)
              replace e4 : a.tmps[58]? = some v4 := e4
              obtain rfl : v4 = _ := j4
              obtain ⟨v2, e2, j2⟩ := hdep 2 (by kernel_rfl)
              replace e2 : a.tmps[56]? = some v2 := e2
              obtain rfl : v2 = _ := j2
              have q0 := XL.out _ _ (heap_on hb.bel hn6)
              clear hdep
              go_simp
              exact hK _ _ rfl (Below.refl _ _)
            · intro a w' hb hdep K hK
              have c0 := hb.at 0 0 _ rfl
              obtain ⟨v2, e2, j2⟩ := hdep 2 (by kernel_rfl)
              replace e2 : a.tmps[56]? = some v2 := e2
              obtain rfl : v2 = _ := j2
              clear hdep
              go_simp
              exact hK _ _ rfl (Below.refl _ _)
            · intro a w' hb hdep K hK
              have c5 := hb.at 2 5 _ rfl
              obtain ⟨v6, e6, j6⟩ := hdep 6 (by kernel_rfl)
              replace e6 : a.tmps[60]? = some v6 := e6
              obtain rfl : v6 = _ := j6
              obtain ⟨v2, e2, j2⟩ := hdep 2 (by kernel_rfl)
              replace e2 : a.tmps[56]? = some v2 := e2
              obtain rfl : v2 = _ := j2
              clear hdep
              go_simp
              exact hK _ _ rfl (Below.refl _ _)
            · intro a w' hb hdep K hK
              obtain ⟨v7, e7, j7⟩ := hdep 7 (by kernel_rfl)
              replace e7 : a.tmps[61]? = some v7 := e7
              obtain rfl : v7 = _ := j7
              obtain ⟨v2, e2, j2⟩ := hdep 2 (by kernel_rfl)
              replace e2 : a.tmps[56]? = some v2 := e2
              obtain rfl : v2 = _ := j2
              have q0 := XT.out _ _ (heap_on hb.bel hg6)
              clear hdep
              go_simp
              exact hK _ _ rfl (Below.refl _ _)
            · intro a w' hb hdep K hK
              have c1 := hb.at 1 1 _ rfl
              obtain ⟨v2, e2, j2⟩ := hdep 2 (by kernel_rfl)
              replace e2 : a.tmps[56]? = some v2 := e2
              obtain rfl : v2 = _ := j2
              clear hdep
              go_simp
              exact hK _ _ rfl (Below.refl _ _)
            · intro a w' hb hdep K hK
              obtain ⟨v8, e8, j8⟩ := hdep 8 (by kernel_rfl)
              replace e8 : a.tmps[62]? = some v8 := e8
              obtain rfl : v8 = _ := j8
              obtain ⟨v9, e9, j9⟩ := hdep 9 (by kernel_rfl)
              replace e9 : a.tmps[63]? = some v9 := e9
              obtain rfl : v9 = _ := j9
              obtain ⟨v2, e2, j2⟩ := hdep 2 (by kernel_rfl)
              replace e2 : a.tmps[56]? = some v2 := e2
              obtain rfl : v2 = _ := j2
              have wq : IntKind.i64.wrap (2147483627 + (k : Int)) = 2147483627 + (k : Int) := by rw [IntKind.wrap_i64]; omega
              clear hdep
              go_simp
              exact hK _ _ rfl (Below.refl _ _)
            · intro a w' hb hdep K hK
              obtain ⟨v5, e5, j5⟩ := hdep 5 (by kernel_rfl)
              replace e5 : a.tmps[59]? = some v5 := e5
              obtain rfl : v5 = _ := j5
              obtain ⟨v10, e10, j10⟩ := hdep 10 (by kernel_rfl)
              replace e10 : a.tmps[64]? = some v10 := e10
              obtain rfl : v10 = _ := j10
              obtain ⟨v2, e2, j2⟩ := hdep 2 (by kernel_rfl)
              replace e2 : a.tmps[56]? = some v2 := e2
              obtain rfl : v2 = _ := j2
              clear hdep
              go_simp
              exact hK _ _ rfl (Below.refl _ _)
            · intro a w' hb hdep K hK
              obtain ⟨v2, e2, j2⟩ := hdep 2 (by kernel_rfl)
              replace e2 : a.tmps[56]? = some v2 := e2
              obtain rfl : v2 = _ := j2
              obtain ⟨v11, e11, j11⟩ := hdep 11 (by kernel_rfl)
              replace e11 : a.tmps[65]? = some v11 := e11
              obtain rfl : v11 = _ := j11
              clear hdep
              go_simp
              exact hK _ _ rfl (Below.refl _ _)
            · intro a w' hb hdep K hK
              obtain ⟨v12, e12, j12⟩ := hdep 12 (by kernel_rfl)
              replace e12 : a.tmps[66]? = some v12 := e12
              obtain rfl : v12 = _ := j12
              clear hdep
              go_simp
              exact hK _ _ rfl (Below.refl _ _)
            · intro a w' hb hdep K hK
              have c8 := hb.at 3 8 _ rfl
              obtain ⟨v13, e13, j13⟩ := hdep 13 (by kernel_rfl)
              replace e13 : a.tmps[67]? = some v13 := e13
              obtain rfl : v13 = _ := j13
              clear hdep
              refine wanted_load_row 13 rfl 67 rfl (by assumption) rfl 23 _ rfl w5.heap.size (by simp [Act.eval, c8]) 23 (tl L) (0, 0) _ (heap_on hb.bel hn6) Try.underlying23 rfl (talIk hL) ?_
              exact hK _ _ rfl (Below.refl _ _)
            · intro a w' hb hdep K hK
              obtain ⟨v14, e14, j14⟩ := hdep 14 (by kernel_rfl)
              replace e14 : a.tmps[68]? = some v14 := e14
              obtain rfl : v14 = _ := j14
              obtain ⟨v13, e13, j13⟩ := hdep 13 (by kernel_rfl)
              replace e13 : a.tmps[67]? = some v13 := e13
              obtain rfl : v13 = _ := j13
              clear hdep
              go_simp
              go_at_call 14
              refine (hsl w').mono ?_
              rintro e w2 ⟨rfl, hb2⟩
              exact hK _ _ rfl hb2
            · intro a w' hb hdep K hK
              have c5 := hb.at 2 5 _ rfl
              obtain ⟨v13, e13, j13⟩ := hdep 13 (by kernel_rfl)
              replace e13 : a.tmps[67]? = some v13 := e13
              obtain rfl : v13 = _ := j13
              clear hdep
              refine wanted_load_row 13 rfl 67 rfl (by assumption) rfl 23 _ rfl w.heap.size (by simp [Act.eval, c5]) 23 (tl T) (0, 0) _ (heap_on hb.bel hg6) Try.underlying23 rfl (talIk hT) ?_
              exact hK _ _ rfl (Below.refl _ _)
            · intro a w' hb hdep K hK
              obtain ⟨v16, e16, j16⟩ := hdep 16 (by kernel_rfl)
              replace e16 : a.tmps[70]? = some v16 := e16
              obtain rfl : v16 = _ := j16
              obtain ⟨v13, e13, j13⟩ := hdep 13 (by kernel_rfl)
              replace e13 : a.tmps[67]? = some v13 := e13
              obtain rfl : v13 = _ := j13
              clear hdep
              go_simp
              go_at_call 14
              refine (hst w').mono ?_
              rintro e w2 ⟨rfl, hb2⟩
              exact hK _ _ rfl hb2
            · intro a w' hb hdep K hK
              have c1 := hb.at 1 1 _ rfl
              obtain ⟨v13, e13, j13⟩ := hdep 13 (by kernel_rfl)
              replace e13 : a.tmps[67]? = some v13 := e13
              obtain rfl : v13 = _ := j13
              clear hdep
              go_simp
              exact hK _ _ rfl (Below.refl _ _)
            · intro a w' hb hdep K hK
              obtain ⟨v17, e17, j17⟩ := hdep 17 (by kernel_rfl)
              replace e17 : a.tmps[71]? = some v17 := e17
              obtain rfl : v17 = _ := j17
              obtain ⟨v18, e18, j18⟩ := hdep 18 (by kernel_rfl)
              replace e18 : a.tmps[72]? = some v18 := e18
              obtain rfl : v18 = _ := j18
              obtain ⟨v13, e13, j13⟩ := hdep 13 (by kernel_rfl)
              replace e13 : a.tmps[67]? = some v13 := e13
              obtain rfl : v13 = _ := j13
              have wq : IntKind.i64.wrap (U + (k : Int)) = U + (k : Int) := by rw [IntKind.wrap_i64]; omega
              clear hdep
              go_simp
              exact hK _ _ rfl (Below.refl _ _)
            · intro a w' hb hdep K hK
              obtain ⟨v15, e15, j15⟩ := hdep 15 (by kernel_rfl)
              replace e15 : a.tmps[69]? = some v15 := e15
              obtain rfl : v15 = _ := j15
              obtain ⟨v19, e19, j19⟩ := hdep 19 (by kernel_rfl)
              replace e19 : a.tmps[73]? = some v19 := e19
              obtain rfl : v19 = _ := j19
              obtain ⟨v13, e13, j13⟩ := hdep 13 (by kernel_rfl)
              replace e13 : a.tmps[67]? = some v13 := e13
              obtain rfl : v13 = _ := j13
              clear hdep
              go_simp
              exact hK _ _ rfl (Below.refl _ _)
            · intro a w' hb hdep K hK
              obtain ⟨v13, e13, j13⟩ := hdep 13 (by kernel_rfl)
              replace e13 : a.tmps[67]? = some v13 := e13
              obtain rfl : v13 = _ := j13
              obtain ⟨v20, e20, j20⟩ := hdep 20 (by kernel_rfl)
              replace e20 : a.tmps[74]? = some v20 := e20
              obtain rfl : v20 = _ := j20
              clear hdep
              go_simp
              exact hK _ _ rfl (Below.refl _ _)
            · intro a w' hb hdep K hK
              obtain ⟨v21, e21, j21⟩ := hdep 21 (by kernel_rfl)
              replace e21 : a.tmps[75]? = some v21 := e21
              obtain rfl : v21 = _ := j21
              clear hdep
              go_simp
              exact hK _ _ rfl (Below.refl _ _)
            · intro a w' hb hdep K hK
              obtain ⟨v22, e22, j22⟩ := hdep 22 (by kernel_rfl)
              replace e22 : a.tmps[76]? = some v22 := e22
              obtain rfl : v22 = _ := j22
              clear hdep
              go_simp
              go_at_call 7
              refine (wakes_call w').mono ?_
              rintro e w2 ⟨rfl, hb2⟩
              exact hK _ _ rfl hb2
            · intro a w' hb hdep K hK
              obtain ⟨v22, e22, j22⟩ := hdep 22 (by kernel_rfl)
              replace e22 : a.tmps[76]? = some v22 := e22
              obtain rfl : v22 = _ := j22
              obtain ⟨v23, e23, j23⟩ := hdep 23 (by kernel_rfl)
              replace e23 : a.tmps[77]? = some v23 := e23
              obtain rfl : v23 = _ := j23
              clear hdep
              go_simp
              exact hK _ _ rfl (Below.refl _ _)
            · intro a w' hb hdep K hK
              obtain ⟨v24, e24, j24⟩ := hdep 24 (by kernel_rfl)
              replace e24 : a.tmps[78]? = some v24 := e24
              obtain rfl : v24 = _ := j24
              clear hdep
              go_simp
              exact hK _ _ rfl (Below.refl _ _)
          · intro a w' hb hall
            obtain ⟨v, h4, hv⟩ := hall 25 (by decide)
            obtain rfl : v = .bool true := hv
            have HBB := Lib.hid (HB6.out.trans (hb.bel.mono HB6.out.size))
            have hd := hb.defers
            clear hall hb
            go_wp2
            replace h4 : a.tmps[4]? = some (.bool true) := h4
            exact bodyPost_ret (v := .bool true) (by simp [results, Try.results6, go_sem, h4]) hd ⟨rfl, HBB.out⟩
          -- END REGION
        · have ho := most_no S k hS (by omega)
          rw [(add_no ho).1, (add_no ho).2] at hac
          clear hL
          generalize tS S = T at hac hT hg2
          go_wp2_with (refine wpList_load_row rfl 23 _ rfl w.heap.size rfl 23 (tl T) (0, 0) _ hg2 Try.underlying23 rfl (talIk hT) ?_)
          refine hac.mono ?_
          rintro e w5 ⟨rfl, hb5⟩
          have HB5 := Lib.hid (HB2.out.trans (hb5.mono HB2.out.size))
          have hg5 := heap_on hb5 hg2
          clear hb5 hac HB2 hg2
          go_upto_region 11 with (refine wpList_store_row rfl 23 _ _ rfl w5.heap.size (tl T) rfl rfl 23 (tl zT) (heap_alloc_last w5 _) (talIk hT) (by rw [tl_size zT_tal, tl_size hT]) (tl_all _) ?_)
          rw [World.setRow_alloc_new]
          have hn6 := heap_alloc_last w5 (.cells (tl T) 23)
          have hl6 := below_al w5 (.cells (tl T) 23)
          generalize w5.alloc (.cells (tl T) 23) = w6 at hn6 hl6 ⊢
          have hg6 := heap_on hl6 hg5
          have HB6 := Lib.hid (HB5.out.trans (hl6.mono HB5.out.size))
          have heq := fun w => run_eqi_tal w hT hT
          rw [decide_eq_true rfl] at heq
          clear hl6 hg5 HB5
          go_wp2_with (first
            | (refine wpList_load_row_g 2 true rfl 46 rfl _ rfl rfl 23 _ rfl w5.heap.size rfl 23 (tl T) (0, 0) _ hn6 Try.underlying23 rfl (talIk hT) ?_)
            | (refine wpList_load_row_g 2 true rfl 46 rfl _ rfl rfl 23 _ rfl w.heap.size rfl 23 (tl T) (0, 0) _ hg6 Try.underlying23 rfl (talIk hT) ?_))
          refine (hwk _).mono ?_
          rintro e w7 ⟨rfl, hb7⟩
          have HB7 := Lib.hid (HB6.out.trans (hb7.mono HB6.out.size))
          clear hb7 HB6
          go_wp2_with fail
          go_ret
          exact ⟨rfl, HB7.out⟩
  · have fin : ∀ w', Below w.heap.size w w' → Below w.heap.size w w' := fun _ h => h
    by_cases h1 : s < 0
    · go_enter Try.func6, Try.ntmps6
      go_wp2_with (refine (hwk _).mono ?_; rintro e w7 ⟨rfl, hb7⟩)
      go_ret
      exact ⟨rfl, hb7⟩
    · by_cases h2 : 258 ≤ s
      · go_enter Try.func6, Try.ntmps6
        go_wp2_with (refine (hwk _).mono ?_; rintro e w7 ⟨rfl, hb7⟩)
        go_ret
        exact ⟨rfl, hb7⟩
      · by_cases h3 : m < 0
        · go_enter Try.func6, Try.ntmps6
          go_wp2_with (refine (hwk _).mono ?_; rintro e w7 ⟨rfl, hb7⟩)
          go_ret
          exact ⟨rfl, hb7⟩
        · have h4 : 40 < m := by omega
          go_enter Try.func6, Try.ntmps6
          go_wp2_with (refine (hwk _).mono ?_; rintro e w7 ⟨rfl, hb7⟩)
          go_ret
          exact ⟨rfl, hb7⟩
end Go.Proofs.Ytlbgnichgjancaa
