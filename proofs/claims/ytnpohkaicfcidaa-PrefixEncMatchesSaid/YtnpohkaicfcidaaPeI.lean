/- The reference's Bits, Size, Bytes. -/
import Derived.Test.YtnpohkaicfcidaaPeH
set_option linter.unusedVariables false
set_option linter.unusedSimpArgs false
namespace Go.Proofs.Ytnpohkaicfcidaa
open Go.RowKit

set_option maxRecDepth 100000 in
set_option maxHeartbeats 2000000 in
theorem rbits_no (l : List Int) (h : Lng l) (hv : ¬ ks l ≤ 32768) (sp : Option Addr) (n cap : Nat) (w : World) :
    Calls Try.prog 19 #[.agg (lg l), .slice sp n cap] w fun e w' => e = .returned (.tuple #[.slice none 0 0, .bool false]) ∧ Below w.heap.size w w' := by
  have hz := cdsZ
  have HRC := Lib.hid (fun W => rcodes_no l h hv W)
  have hg := heap_alloc_last w (.cells (lg l) 23)
  have HB := Lib.hid ((Below.refl w.heap.size w).alloc (Nat.le_refl _) (.cells (lg l) 23))
  go_enter Try.func19, Try.ntmps19
  go_upto_region 1 with fail
  generalize w.alloc (.cells (lg l) 23) = w1 at hg HB ⊢
  go_upto_region 2 with (first
    | (refine wpList_load_row rfl 23 _ rfl w.heap.size rfl 23 (lg l) (0, 0) _ hg Try.underlying23 rfl (lngIk h) ?_)
    | (with_reducible refine (HRC.out _).mono ?_; rintro e w2 ⟨rfl, hb2⟩)
    | (refine wpList_store_row rfl 54 _ _ rfl w2.heap.size (cl zC) rfl rfl 54 (cl zC) (heap_alloc_last w2 _) cdsI rfl (cl_all _) ?_))
  rw [World.setRow_alloc_new]
  try simp only [Act.put]
  have hby := hb2.alloc (o := .cells (cl zC) 54) hb2.size
  have HB3 := Lib.hid (HB.out.trans (hby.mono HB.out.size))
  generalize w2.alloc (.cells (cl zC) 54) = w3 at HB3 ⊢
  clear hz hg hby hb2
  go_wp2_with fail
  go_returns
  exact ⟨rfl, HB3.out⟩
theorem rbits_call (l : List Int) (h : Lng l) (sp : Option Addr) (n cap : Nat) (q : List Int) (hq : q.length = n) (hn : n ≤ 10000) (w : World) (hs : Src w .i64 sp q) :
    Calls Try.prog 19 #[.agg (lg l), .slice sp n cap] w fun e w' => ∃ A c, e = .returned (.tuple #[.slice (ad0 A) (spR l q).length c, .bool (canV l q)]) ∧ NewO w w' A c (spR l q) := by
  by_cases hv : ks l ≤ 32768
  · exact rbits_yes l ⟨h, hv⟩ sp n cap q hq hn w hs
  · have hB : canV l q = false := by unfold canV; rw [decide_eq_false hv]; rfl
    have hR : spR l q = [] := by unfold spR; rw [hB]; rfl
    rw [hB, hR]
    exact (rbits_no l h hv sp n cap w).mono fun e w' ⟨h1, h2⟩ => ⟨none, 0, h1, OwnS.nil _ _ _, (fun g e => by cases e), h2⟩
/-- The error of what cannot be encoded. -/
def spE (l q : List Int) : Int := if canV l q then 0 else 2
theorem spR_len {l q : List Int} (h : Lng l) : (spR l q).length ≤ 15 * q.length := by
  unfold spR
  split
  · rename_i hc
    unfold canV at hc
    rw [Bool.and_eq_true] at hc
    exact spV_len (ks_small (of_decide_eq_true hc.1)) q
  · simp
theorem spR_bin (l q : List Int) : Bin (spR l q) := by
  unfold spR
  split
  · exact spV_bin l q
  · exact Bin.nil

set_option maxRecDepth 100000 in
set_option maxHeartbeats 2000000 in
theorem rsize_call (l : List Int) (h : Lng l) (sp : Option Addr) (n cap : Nat) (q : List Int) (hq : q.length = n) (hn : n ≤ 10000) (w : World) (hs : Src w .i64 sp q) :
    Calls Try.prog 11 #[.agg (lg l), .slice sp n cap] w fun e w' => e = .returned (.tuple #[.int .i64 (((spR l q).length : Nat) : Int), .int .i64 (spE l q)]) ∧ Below w.heap.size w w' := by
  have HBC := Lib.hid (fun W hs => rbits_call l h sp n cap q hq hn W hs)
  have HNO := Lib.hid (show canV l q = false → spR l q = [] from fun e => by unfold spR; rw [e]; rfl)
  have HE := Lib.hid (show spE l q = if canV l q then 0 else 2 from rfl)
  generalize spE l q = E at HE ⊢
  generalize spR l q = R at HBC HNO ⊢
  generalize canV l q = B at HBC HNO HE
  have hg := heap_alloc_last w (.cells (lg l) 23)
  have hb := ((Below.refl w.heap.size w).alloc (Nat.le_refl _) (.cells (lg l) 23))
  have hs1 := hs.below hb
  have HB := Lib.hid hb
  clear hb
  go_enter Try.func11, Try.ntmps11
  go_upto_region 1 with fail
  generalize w.alloc (.cells (lg l) 23) = w1 at hg HB hs1 ⊢
  go_upto_region 2 with (first
    | (refine wpList_load_row rfl 23 _ rfl w.heap.size rfl 23 (lg l) (0, 0) _ hg Try.underlying23 rfl (lngIk h) ?_)
    | (with_reducible refine (HBC.out _ hs1).mono ?_; rintro e w2 ⟨A, c, rfl, hs2⟩))
  have HB2 := Lib.hid (HB.out.trans (hs2.bel.mono HB.out.size))
  clear hs2 hg hs1 HBC
  cases B with
  | true =>
    have he : E = 0 := HE.out
    subst he
    go_wp2_with fail
    go_returns
    exact ⟨rfl, HB2.out⟩
  | false =>
    have he : E = 2 := HE.out
    have hr : R = [] := HNO.out rfl
    subst he hr
    go_wp2_with fail
    go_returns
    exact ⟨rfl, HB2.out⟩

theorem byteOf_eq (q : List Int) (j : Nat) : byteOf q j = 128 * q.getD (8 * j) 0 + 64 * q.getD (8 * j + 1) 0 + 32 * q.getD (8 * j + 2) 0 + 16 * q.getD (8 * j + 3) 0 + 8 * q.getD (8 * j + 4) 0 + 4 * q.getD (8 * j + 5) 0 + 2 * q.getD (8 * j + 6) 0 + q.getD (8 * j + 7) 0 := by
  have e : List.range 8 = [0, 1, 2, 3, 4, 5, 6, 7] := by decide
  unfold byteOf valV
  rw [e]
  simp only [List.map_cons, List.map_nil, List.foldl_cons, List.foldl_nil, Nat.add_zero]
  omega
theorem take_getD_succ (q : List Int) (i : Nat) (hi : i < q.length) (t : Nat) : (q.take (i + 1)).getD t 0 = (q.take i).getD t 0 + if t = i then q.getD i 0 else 0 := by
  rw [take_succD q i hi]
  simp only [List.getD_eq_getElem?_getD, List.getElem?_append, List.length_take, Nat.min_eq_left (Nat.le_of_lt hi)]
  by_cases h1 : t < i
  · rw [if_pos h1, if_neg (by omega), Int.add_zero]
  · rw [if_neg h1]
    have e1 : (q.take i)[t]? = none := List.getElem?_eq_none (by rw [List.length_take]; omega)
    rw [e1]
    by_cases h2 : t = i
    · rw [if_pos h2, h2, Nat.sub_self]
      simp
    · rw [if_neg h2]
      obtain ⟨d, hd⟩ : ∃ d, t - i = d + 1 := ⟨t - i - 1, by omega⟩
      rw [hd]
      simp
theorem byteOf_take (q : List Int) (i : Nat) (hi : i < q.length) (j : Nat) : byteOf (q.take (i + 1)) j = byteOf (q.take i) j + if j = i / 8 then 128 / 2 ^ (i % 8) * q.getD i 0 else 0 := by
  rw [byteOf_eq, byteOf_eq]
  simp only [take_getD_succ q i hi]
  generalize q.getD i 0 = b
  generalize (q.take i).getD (8 * j) 0 = y0
  generalize (q.take i).getD (8 * j + 1) 0 = y1
  generalize (q.take i).getD (8 * j + 2) 0 = y2
  generalize (q.take i).getD (8 * j + 3) 0 = y3
  generalize (q.take i).getD (8 * j + 4) 0 = y4
  generalize (q.take i).getD (8 * j + 5) 0 = y5
  generalize (q.take i).getD (8 * j + 6) 0 = y6
  generalize (q.take i).getD (8 * j + 7) 0 = y7
  by_cases hj : j = i / 8
  · rw [if_pos hj]
    have hr : i % 8 = 0 ∨ i % 8 = 1 ∨ i % 8 = 2 ∨ i % 8 = 3 ∨ i % 8 = 4 ∨ i % 8 = 5 ∨ i % 8 = 6 ∨ i % 8 = 7 := by omega
    rcases hr with hr | hr | hr | hr | hr | hr | hr | hr <;> rw [hr]
    · rw [if_pos (by omega), if_neg (by omega), if_neg (by omega), if_neg (by omega), if_neg (by omega), if_neg (by omega), if_neg (by omega), if_neg (by omega)]; show _ = _ + 128 * b; omega
    · rw [if_neg (by omega), if_pos (by omega), if_neg (by omega), if_neg (by omega), if_neg (by omega), if_neg (by omega), if_neg (by omega), if_neg (by omega)]; show _ = _ + 64 * b; omega
    · rw [if_neg (by omega), if_neg (by omega), if_pos (by omega), if_neg (by omega), if_neg (by omega), if_neg (by omega), if_neg (by omega), if_neg (by omega)]; show _ = _ + 32 * b; omega
    · rw [if_neg (by omega), if_neg (by omega), if_neg (by omega), if_pos (by omega), if_neg (by omega), if_neg (by omega), if_neg (by omega), if_neg (by omega)]; show _ = _ + 16 * b; omega
    · rw [if_neg (by omega), if_neg (by omega), if_neg (by omega), if_neg (by omega), if_pos (by omega), if_neg (by omega), if_neg (by omega), if_neg (by omega)]; show _ = _ + 8 * b; omega
    · rw [if_neg (by omega), if_neg (by omega), if_neg (by omega), if_neg (by omega), if_neg (by omega), if_pos (by omega), if_neg (by omega), if_neg (by omega)]; show _ = _ + 4 * b; omega
    · rw [if_neg (by omega), if_neg (by omega), if_neg (by omega), if_neg (by omega), if_neg (by omega), if_neg (by omega), if_pos (by omega), if_neg (by omega)]; show _ = _ + 2 * b; omega
    · rw [if_neg (by omega), if_neg (by omega), if_neg (by omega), if_neg (by omega), if_neg (by omega), if_neg (by omega), if_neg (by omega), if_pos (by omega)]; show _ = _ + 1 * b; omega
  · rw [if_neg hj, if_neg (by omega), if_neg (by omega), if_neg (by omega), if_neg (by omega), if_neg (by omega), if_neg (by omega), if_neg (by omega), if_neg (by omega)]
    omega
/-- The bytes of the first i bits, m of them. -/
def pbK (q : List Int) (m i : Nat) : List Int := (List.range m).map (byteOf (q.take i))
theorem pbK_zero (q : List Int) (m : Nat) : pbK q m 0 = List.replicate m 0 := by
  unfold pbK
  have e : byteOf (q.take 0) = fun _ => 0 := by funext j; rw [byteOf_eq]; simp
  rw [e, List.map_const', List.length_range]
theorem pbK_all (q : List Int) : pbK q ((q.length + 7) / 8) q.length = packB q := by
  unfold pbK packB
  rw [List.take_of_length_le (Nat.le_refl _)]
theorem pbK_len (q : List Int) (m i : Nat) : (pbK q m i).length = m := by simp [pbK]
theorem pbK_get (q : List Int) (m i j : Nat) (hj : j < m) : (pbK q m i).getD j 0 = byteOf (q.take i) j := by simp [pbK, hj]
theorem pbK_set (q : List Int) (m i : Nat) (hi : i < q.length) : (pbK q m i).set (i / 8) (byteOf (q.take i) (i / 8) + 128 / 2 ^ (i % 8) * q.getD i 0) = pbK q m (i + 1) := by
  unfold pbK
  refine List.ext_getElem? fun j => ?_
  rw [List.getElem?_set]
  by_cases hj : j < m
  · by_cases e : i / 8 = j
    · rw [if_pos e]
      simp [hj]
      rw [byteOf_take q i hi j, if_pos e.symm, e]
      refine ⟨hj, ?_⟩
      rw [List.getD_eq_getElem?_getD]
    · rw [if_neg e]
      simp [hj]
      rw [byteOf_take q i hi j, if_neg (fun x => e x.symm), Int.add_zero]
  · have h1 : ∀ f : Nat → Int, ((List.range m).map f)[j]? = none := fun f => List.getElem?_eq_none (by simp; omega)
    by_cases e : i / 8 = j
    · rw [if_pos e]
      simp [hj]
      omega
    · rw [if_neg e, h1, h1]
theorem pbK_same (q : List Int) (m i : Nat) (hi : i < q.length) (h0 : q.getD i 0 = 0) : pbK q m i = pbK q m (i + 1) := by
  unfold pbK
  refine List.map_congr_left fun j _ => ?_
  rw [byteOf_take q i hi j, h0]
  split <;> simp
theorem sliceT : Try.prog.underlying 25 = some (.slice 5) := Try.underlying25
theorem byteI : (Try.prog.info? 5).map (fun i => (i.zero, i.size, i.bytes)) = some (some (.int .u8 0), 1, 1) := by kernel_rfl

set_option maxRecDepth 100000 in
set_option maxHeartbeats 4000000 in
theorem rpack_call (sp : Option Addr) (n cap : Nat) (q : List Int) (hq : q.length = n) (hb : Bin q) (hn : n ≤ 200000) (w : World) (hs : Src w .i64 sp q) :
    Calls Try.prog 22 #[.slice sp n cap] w fun e w' => ∃ g, e = .returned (.slice (some ⟨g, 0, none⟩) ((n + 7) / 8) ((n + 7) / 8)) ∧ w.heap.size ≤ g ∧ w'.heap[g]? = some (.cells (icells .u8 (packB q)) 5 (0, 0)) ∧ Below w.heap.size w w' := by
  obtain ⟨m, hm⟩ : ∃ m, m = (n + 7) / 8 := ⟨_, rfl⟩
  have HALL := Lib.hid (show pbK q m n = packB q by rw [hm, ← hq]; exact pbK_all q)
  have hmI : Int.tdiv ((n : Int) + 7) 8 = (m : Int) := by
    rw [Int.tdiv_eq_ediv_of_nonneg (by omega)]
    omega
  have hm8 : m ≤ 30000 := by omega
  have hmn : n ≤ 8 * m := by omega
  have hmk := fun W => run_makeI (P := Try.prog) (b := 1) sliceT byteI .i64 .i64 m (by omega) (by omega) W
  have hr := heap_alloc_last w (.cells (icells .u8 (List.replicate m 0)) 5)
  have HB0 := Lib.hid ((Below.refl w.heap.size w).alloc (Nat.le_refl _) (.cells (icells .u8 (List.replicate m 0)) 5))
  rw [← hm]
  have HZ := Lib.hid (pbK_zero q m)
  have HBN := Lib.hid hb
  have HQ := Lib.hid hq
  have HS := Lib.hid hs
  have HLT := Lib.hid (show ∀ i, i < n → i / 8 < m from fun i hi => by omega)
  clear hm hb hq hs
  go_enter Try.func22, Try.ntmps22
  go_upto_region 3 with fail
  generalize w.alloc (.cells (icells .u8 (List.replicate m 0)) 5) = w1 at hr HB0 ⊢
  rw [← HZ.out] at hr
  have HR := Lib.hid hr
  clear hr hmk hmI
  go_loopw [4] (fun v wr => ∃ i : Nat, i ≤ n ∧ v = .int .i64 i ∧ wr.heap[w.heap.size]? = some (.cells (icells .u8 (pbK q m i)) 5 (0, 0)) ∧ Below w.heap.size w wr) (fun v _ => n - (intOf v).toNat)
  case atStart => exact ⟨0, by omega, rfl, HR.out, HB0.out⟩
  case round =>
    obtain ⟨i, hi, rfl, hrow, hbel⟩ := hrel
    have HRW := Lib.hid hrow
    have HBL := Lib.hid hbel
    clear hrow hbel
    by_cases hlt : i < n
    · have hiq : i < q.length := by rw [HQ.out]; exact hlt
      obtain ⟨g, o, rfl, hcb⟩ := (HS.out.below HBL.out).get hiq
      have hbit := HBN.out.getD i
      have HSET := Lib.hid (pbK_set q m i hiq)
      have HSAME := Lib.hid (pbK_same q m i hiq)
      have hbd1 := byteOf_bd (h := fun x hx => HBN.out x (List.mem_of_mem_take hx)) (bs := q.take (i + 1)) (i / 8)
      rw [byteOf_take q i hiq (i / 8), if_pos rfl] at hbd1
      have hbd0 := byteOf_bd (h := fun x hx => HBN.out x (List.mem_of_mem_take hx)) (bs := q.take i) (i / 8)
      have hdm := HLT.out i hlt
      have hcl : wr.cell? ⟨w.heap.size, i / 8, none⟩ = some (.int .u8 (byteOf (q.take i) (i / 8))) := by
        simp only [World.cell?, HRW.out]
        have := pbK_get q m i (i / 8) hdm
        rw [← this]
        simp [icells, pbK_len, hdm]
      have hfz : wr.frozen? ⟨w.heap.size, i / 8, none⟩ = false := frozen_of_row wr w.heap.size (i / 8) _ _ HRW.out
      generalize byteOf (q.take i) (i / 8) = Y at hbd1 hbd0 hcl HSET
      generalize q.getD i 0 = b at hcb hbit HSET HSAME hbd1
      rcases hbit with rfl | rfl
      · have HE := Lib.hid (HSAME.out rfl)
        clear HSET HSAME hbd1 hbd0 hcl hfz
        go_wp2_with fail
        exact ⟨⟨i + 1, by omega, by go_num, by rw [← HE.out]; exact HRW.out, HBL.out⟩, by simp [intOf]; omega⟩
      · have hd : Int.tdiv (i : Int) 8 = ((i / 8 : Nat) : Int) := by rw [Int.tdiv_eq_ediv_of_nonneg (by omega)]; rfl
        have hr8 : Int.tmod (i : Int) 8 = ((i % 8 : Nat) : Int) := by rw [Int.tmod_eq_emod_of_nonneg (by omega)]; rfl
        have hr7 : i % 8 < 8 := Nat.mod_lt _ (by omega)
        rw [Int.mul_one] at HSET hbd1
        generalize i / 8 = d at hd HSET hdm hcl hfz
        generalize i % 8 = r at hr8 HSET hbd1 hr7
        clear HSAME
        go_wp2_with fail
        refine ⟨⟨i + 1, by omega, by go_num, ?_, HBL.out.setCell (by simp) _⟩, by simp [intOf]; omega⟩
        rw [heap_setCell_same _ _ _ _ _ _ HRW.out, ← HSET.out]
        have e := lg_set (pbK q m i) d (Y + 128 / 2 ^ r)
        unfold lg at e
        rw [e]
    · obtain rfl : i = n := by omega
      have hrow := HRW.out
      rw [HALL.out] at hrow
      have HRX := Lib.hid hrow
      clear hrow
      go_wp2_with fail
      go_returns
      exact ⟨w.heap.size, rfl, Nat.le_refl _, HRX.out, HBL.out⟩
end Go.Proofs.Ytnpohkaicfcidaa
