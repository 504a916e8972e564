/- mtf: Forth, Back (genmuf.py). -/
import Derived.Test.YtaemmeofchonaaaMuE
import Derived.Test.YtaemmeofchonaaaMuC
set_option linter.unusedVariables false
set_option linter.unusedSimpArgs false
namespace Go.Proofs.Ytaemmeofchonaaa
open Go.RowKit

theorem OwnS.lit {w : World} {k : IntKind} {E : TypeId} {g : Nat} {l : List Int} (h : w.heap[g]? = some (.cells (icells k l) E (0, 0))) (hm : l.length ≤ 1000000) : OwnS w k E (some g) l.length l :=
  ⟨by rw [List.length_map, Nat.mul_one], .inr ⟨g, l.length, icells k l, rfl, Nat.zero_le _, h, Nat.le_refl _, by unfold maxLen; omega, by rw [icells_size]; omega, by
    rw [Nat.mul_one]
    unfold icells
    rw [List.take_of_length_le (by simp)]⟩⟩
/-- The first k of these numbers, and zeros. -/
def padV (F : List Int) (k : Nat) : List Int := F.take k ++ List.replicate (F.length - k) 0
theorem padV_len (F : List Int) (k : Nat) : (padV F k).length = F.length := by
  unfold padV
  rw [List.length_append, List.length_take, List.length_replicate]
  omega
theorem padV_zero (F : List Int) : padV F 0 = List.replicate F.length 0 := by simp [padV]
theorem padV_all (F : List Int) : padV F F.length = F := by simp [padV]
theorem padV_set (F : List Int) (k : Nat) (h : k < F.length) : (padV F k).set k (F.getD k 0) = padV F (k + 1) := by
  unfold padV
  rw [List.set_append_right _ _ (by rw [List.length_take]; omega), List.length_take, show k - min k F.length = 0 by omega, take_snocD F k h, show F.length - k = (F.length - (k + 1)) + 1 by omega, List.replicate_succ, List.set_cons_zero, List.append_assoc]
  rfl
/-- The numbers so far and the list beside them. -/
structure FtK (w : World) (gP g4 : Nat) (out L : List Int) (W : World) : Prop where
  row : W.heap[gP]? = some (.cells (icells .u8 out) 5 (0, 0))
  lst : W.heap[g4]? = some (.cells (ll L) 23 (0, 0))
  g1 : w.heap.size ≤ gP
  g2 : w.heap.size ≤ g4
  ne : gP ≠ g4
  bel : Below w.heap.size w W
section
variable {w W W' : World} {gP g4 : Nat} {out L : List Int}
theorem FtK.on (h : FtK w gP g4 out L W) (hb : Below W.heap.size W W') : FtK w gP g4 out L W' := ⟨heap_on hb h.row, heap_on hb h.lst, h.g1, h.g2, h.ne, h.bel.trans (hb.mono h.bel.size)⟩
theorem FtK.setL (h : FtK w gP g4 out L W) (L2 : List Int) : FtK w gP g4 out L2 (W.setRow g4 (ll L2)) := ⟨(setRow_other _ _ _ _ h.ne).trans h.row, setRow_heap _ _ _ _ _ _ h.lst, h.g1, h.g2, h.ne, h.bel.setRow h.g2 _⟩
theorem FtK.setP (h : FtK w gP g4 out L W) (i : Nat) (x : Int) : FtK w gP g4 (out.set i x) L (W.setCell ⟨gP, i, none⟩ (.int .u8 x)) :=
  ⟨by rw [heap_setCell_same _ _ _ _ _ _ h.row]; exact congrArg (fun c => some (Obj.cells c 5 (0, 0))) (ll_set out i x), (heap_setCell_other _ _ _ _ (fun e => h.ne e.symm)).trans h.lst, h.g1, h.g2, h.ne, h.bel.setCell (p := ⟨gP, i, none⟩) h.g1 _⟩
end
theorem fwV_lenq (l q : List Int) : (fwV l q).length = q.length := fwV_len l q
theorem fwV_byte1 {l : List Int} (h : Vld l) {c : Int} (hc : 0 ≤ c ∧ c ≤ 255) : 0 ≤ (ptV l c).2 ∧ (ptV l c).2 ≤ 255 := by
  obtain ⟨p, h1, h2, _⟩ := h.pos hc
  rw [ptV_some h2]
  show 0 ≤ (p : Int) ∧ (p : Int) ≤ 255
  omega

set_option maxRecDepth 100000 in
set_option maxHeartbeats 4000000 in
theorem forth_call (sp : Option Addr) (n cap : Nat) (q : List Int) (hq : q.length = n) (hby : Byts q) (hn : n ≤ 1000) (w : World) (hs : Src w .u8 sp q) :
    Calls Try.prog 17 #[.slice sp n cap] w fun e w' => ∃ A c, e = .returned (.slice (ad0 A) n c) ∧ NewB w w' A c (fwV idL q) := by
  have HS := Lib.hid hs
  have HQ := Lib.hid hq
  have HY := Lib.hid hby
  have HN := Lib.hid hn
  have hmk := fun W => run_makeI (P := Try.prog) (b := 1) byteT byteI .i64 .i64 n (by omega) (by omega) W
  clear hs hq hby
  have hz := lstZ
  have hs0 := ll_size zS_lst
  have hsI := ll_size idL_lst
  have hFl : (fwV idL q).length = n := by rw [fwV_len, HQ.out]
  have HFL := Lib.hid hFl
  have hr := heap_alloc_last w (.cells (icells .u8 (List.replicate n 0)) 5)
  have HB0 := Lib.hid ((Below.refl w.heap.size w).alloc (Nat.le_refl _) (.cells (icells .u8 (List.replicate n 0)) 5))
  have hsz1 : w.heap.size + 1 ≤ (w.alloc (.cells (icells .u8 (List.replicate n 0)) 5)).heap.size := by simp
  have HSZ := Lib.hid hsz1
  clear hsz1 hFl
  go_enter Try.func17, Try.ntmps17
  go_upto_region 2 with fail
  clear hmk
  generalize w.alloc (.cells (icells .u8 (List.replicate n 0)) 5) = w1 at hr HB0 HSZ ⊢
  have HR := Lib.hid hr
  clear hr
  go_upto_region 3 with (first
    | ((with_reducible refine (new_call _).mono ?_)
       rintro e w2 ⟨rfl, hb2⟩)
    | (refine wpList_store_row rfl 23 _ _ rfl w2.heap.size (ll idL) rfl rfl 23 (ll zS) (heap_alloc_last w2 _) (lstIk idL_lst) (by rw [hs0, hsI]) (ll_all _) ?_))
  rw [World.setRow_alloc_new]
  try simp only [Act.put]
  have hrow : (w2.alloc (.cells (ll idL) 23)).heap[w.heap.size]? = some (.cells (icells .u8 (padV (fwV idL q) 0)) 5 (0, 0)) := by
    rw [padV_zero, HFL.out]
    exact heap_on (below_al w2 _) (heap_on hb2 HR.out)
  have HK := Lib.hid (show FtK w w.heap.size w2.heap.size (padV (fwV idL q) 0) idL (w2.alloc (.cells (ll idL) 23)) from ⟨hrow, heap_alloc_last _ _, Nat.le_refl _, by have := hb2.size; have := HSZ.out; omega, by have := hb2.size; have := HSZ.out; omega, (HB0.out.trans (hb2.mono HB0.out.size)).alloc (by have := hb2.size; have := HSZ.out; omega) _⟩)
  obtain ⟨g4, hg4⟩ : ∃ g4, g4 = w2.heap.size := ⟨_, rfl⟩
  rw [← hg4] at HK ⊢
  clear hg4 hb2 hrow HR HB0 HSZ
  generalize w2.alloc (.cells (ll idL) 23) = w3 at HK ⊢
  obtain ⟨gP, hgP⟩ : ∃ gP, gP = w.heap.size := ⟨_, rfl⟩
  rw [← hgP] at HK ⊢
  clear hgP
  go_wp2_with fail
  go_loopw [5, 6, 7, 14] (fun _ _ _ v wr => ∃ i : Nat, i ≤ n ∧ v = .int .i64 i ∧ FtK w gP g4 (padV (fwV idL q) i) (lsV idL (q.take i)) wr) (fun _ _ _ v _ => n - (intOf v).toNat)
  case atStart => exact ⟨0, by omega, rfl, HK.out⟩
  case round =>
    obtain ⟨i, hi, rfl, hk⟩ := hrel
    replace HK := Lib.hid hk
    clear hk hz
    by_cases hlt : i < n
    · have hiq : i < q.length := by rw [HQ.out]; exact hlt
      obtain ⟨g, o, rfl, hcb⟩ := (HS.out.below HK.out.bel).get hiq
      have hxb := HY.out.getD i
      have HCELL := Lib.hid hcb
      have HSN := Lib.hid (show lsV idL (q.take (i + 1)) = (ptV (lsV idL (q.take i)) (q.getD i 0)).1 by rw [take_snocD q i hiq, lsV_snoc])
      have HPS := Lib.hid (padV_set (fwV idL q) i (by rw [HFL.out]; exact hlt))
      have HPL := Lib.hid (show (padV (fwV idL q) i).length = n by rw [padV_len, HFL.out])
      have HV := Lib.hid (lsV_vld Vld.id (q.take i) (take_byte HY.out i))
      have hat := fwV_at idL q i hiq
      have hpc := fun W => put_call (lsV idL (q.take i)) HV.out.lst (q.getD i 0) hxb W
      have hL1 := HV.out.lst
      have hL2 := (HV.out.front hxb).2.lst
      have hPb := fwV_byte1 HV.out hxb
      rw [hat] at HPS
      rw [← HSN.out] at hpc hL2
      obtain ⟨P, hP⟩ : ∃ P : Int, P = (ptV (lsV idL (q.take i)) (q.getD i 0)).2 := ⟨_, rfl⟩
      rw [← hP] at hpc HPS hPb
      obtain ⟨L1, hL1e⟩ : ∃ L1, L1 = lsV idL (q.take i) := ⟨_, rfl⟩
      obtain ⟨L2, hL2e⟩ : ∃ L2, L2 = lsV idL (q.take (i + 1)) := ⟨_, rfl⟩
      rw [← hL1e] at hpc hL1 HK
      rw [← hL2e] at hpc hL2
      have HL2E := Lib.hid hL2e
      have HPC := Lib.hid hpc
      have hw8 : IntKind.u8.wrap P = P := IntWalk.u8_in _ (by omega)
      generalize q.getD i 0 = x at HCELL HPC hxb
      clear hcb hat hpc hP hL1e hL2e HSN HV
      have hcell := HCELL.out
      have hin : (i : Int) < (n : Int) := by omega
      go_upto_region 7 with fail
      clear hcell hiq
      go_upto_region 8 with (first
        | (refine wpList_load_row rfl 23 _ rfl g4 rfl 23 (ll L1) (0, 0) _ HK.out.lst Try.underlying23 rfl (lstIk hL1) ?_)
        | ((with_reducible refine (HPC.out _).mono ?_)
           rintro e w5 ⟨rfl, hb5⟩
           have HK5 := Lib.hid (HK.out.on hb5))
        | (refine wpList_store_row rfl 23 _ _ rfl g4 (ll L2) rfl rfl 23 (ll L1) HK5.out.lst (lstIk hL2) (by rw [ll_size hL1, ll_size hL2]) (ll_all _) ?_))
      try simp only [Act.put]
      have HK6 := Lib.hid (HK5.out.setL L2)
      clear hb5 HK5
      generalize w5.setRow g4 (ll L2) = w6 at HK6 ⊢
      have f0 := frozen_of_row w6 gP i _ _ HK6.out.row
      have c0 : w6.cell? ⟨gP, i, none⟩ = some (.int .u8 ((padV (fwV idL q) i).getD i 0)) := by
        rw [cell_of_row w6 gP i _ _ _ HK6.out.row, icells_get, List.getD_eq_getElem?_getD, List.getElem?_eq_getElem (by rw [HPL.out]; exact hlt)]
        rfl
      generalize (padV (fwV idL q) i).getD i 0 = Z at c0
      have hk7 := HK6.out.setP i P
      rw [HPS.out] at hk7
      have HK7 := Lib.hid hk7
      clear hk7
      go_wp2_with fail
      exact ⟨⟨i + 1, by omega, by go_num, by rw [← HL2E.out]; exact HK7.out⟩, by simp [intOf] <;> omega⟩
    · obtain rfl : i = n := by omega
      have hk := HK.out
      rw [← HFL.out, padV_all] at hk
      replace HK := Lib.hid hk
      clear hk
      go_wp2_with fail
      go_ret
      refine ⟨some gP, i, rfl, ?_, fun g e => by injection e with e; rw [← e]; exact HK.out.g1, HK.out.bel⟩
      have := OwnS.lit HK.out.row (by rw [HFL.out]; have := HN.out; omega)
      rw [HFL.out] at this
      exact this

set_option maxRecDepth 100000 in
set_option maxHeartbeats 4000000 in
theorem back_call (sp : Option Addr) (n cap : Nat) (q : List Int) (hq : q.length = n) (hby : Byts q) (hn : n ≤ 1000) (w : World) (hs : Src w .u8 sp q) :
    Calls Try.prog 19 #[.slice sp n cap] w fun e w' => ∃ A c, e = .returned (.slice (ad0 A) n c) ∧ NewB w w' A c (bkV idL q) := by
  have HS := Lib.hid hs
  have HQ := Lib.hid hq
  have HY := Lib.hid hby
  have HN := Lib.hid hn
  have hmk := fun W => run_makeI (P := Try.prog) (b := 1) byteT byteI .i64 .i64 n (by omega) (by omega) W
  clear hs hq hby
  have hz := lstZ
  have hs0 := ll_size zS_lst
  have hsI := ll_size idL_lst
  have hFl : (bkV idL q).length = n := by rw [bkV_len, HQ.out]
  have HFL := Lib.hid hFl
  have hr := heap_alloc_last w (.cells (icells .u8 (List.replicate n 0)) 5)
  have HB0 := Lib.hid ((Below.refl w.heap.size w).alloc (Nat.le_refl _) (.cells (icells .u8 (List.replicate n 0)) 5))
  have hsz1 : w.heap.size + 1 ≤ (w.alloc (.cells (icells .u8 (List.replicate n 0)) 5)).heap.size := by simp
  have HSZ := Lib.hid hsz1
  clear hsz1 hFl
  go_enter Try.func19, Try.ntmps19
  go_upto_region 2 with fail
  clear hmk
  generalize w.alloc (.cells (icells .u8 (List.replicate n 0)) 5) = w1 at hr HB0 HSZ ⊢
  have HR := Lib.hid hr
  clear hr
  go_upto_region 3 with (first
    | ((with_reducible refine (new_call _).mono ?_)
       rintro e w2 ⟨rfl, hb2⟩)
    | (refine wpList_store_row rfl 23 _ _ rfl w2.heap.size (ll idL) rfl rfl 23 (ll zS) (heap_alloc_last w2 _) (lstIk idL_lst) (by rw [hs0, hsI]) (ll_all _) ?_))
  rw [World.setRow_alloc_new]
  try simp only [Act.put]
  have hrow : (w2.alloc (.cells (ll idL) 23)).heap[w.heap.size]? = some (.cells (icells .u8 (padV (bkV idL q) 0)) 5 (0, 0)) := by
    rw [padV_zero, HFL.out]
    exact heap_on (below_al w2 _) (heap_on hb2 HR.out)
  have HK := Lib.hid (show FtK w w.heap.size w2.heap.size (padV (bkV idL q) 0) idL (w2.alloc (.cells (ll idL) 23)) from ⟨hrow, heap_alloc_last _ _, Nat.le_refl _, by have := hb2.size; have := HSZ.out; omega, by have := hb2.size; have := HSZ.out; omega, (HB0.out.trans (hb2.mono HB0.out.size)).alloc (by have := hb2.size; have := HSZ.out; omega) _⟩)
  obtain ⟨g4, hg4⟩ : ∃ g4, g4 = w2.heap.size := ⟨_, rfl⟩
  rw [← hg4] at HK ⊢
  clear hg4 hb2 hrow HR HB0 HSZ
  generalize w2.alloc (.cells (ll idL) 23) = w3 at HK ⊢
  obtain ⟨gP, hgP⟩ : ∃ gP, gP = w.heap.size := ⟨_, rfl⟩
  rw [← hgP] at HK ⊢
  clear hgP
  go_wp2_with fail
  go_loopw [5, 6, 13] (fun _ _ v wr => ∃ i : Nat, i ≤ n ∧ v = .int .i64 i ∧ FtK w gP g4 (padV (bkV idL q) i) (bsV idL (q.take i)) wr) (fun _ _ v _ => n - (intOf v).toNat)
  case atStart => exact ⟨0, by omega, rfl, HK.out⟩
  case round =>
    obtain ⟨i, hi, rfl, hk⟩ := hrel
    replace HK := Lib.hid hk
    clear hk hz
    by_cases hlt : i < n
    · have hiq : i < q.length := by rw [HQ.out]; exact hlt
      obtain ⟨g, o, rfl, hcb⟩ := (HS.out.below HK.out.bel).get hiq
      have hxb := HY.out.getD i
      have HCELL := Lib.hid hcb
      have HSN := Lib.hid (show bsV idL (q.take (i + 1)) = tkV (bsV idL (q.take i)) (q.getD i 0).toNat by rw [take_snocD q i hiq, bsV_snoc])
      have HPS := Lib.hid (padV_set (bkV idL q) i (by rw [HFL.out]; exact hlt))
      have HPL := Lib.hid (show (padV (bkV idL q) i).length = n by rw [padV_len, HFL.out])
      have HV := Lib.hid (bsV_vld Vld.id (q.take i) (take_byte HY.out i))
      obtain ⟨pp, hpp⟩ : ∃ pp : Nat, q.getD i 0 = (pp : Int) := ⟨(q.getD i 0).toNat, by omega⟩
      have hp256 : pp < 256 := by omega
      have hat := bkV_at idL q i hiq
      rw [hpp] at HCELL HSN hat
      rw [Int.toNat_natCast] at HSN hat
      have hpc := fun W => take_yes (bsV idL (q.take i)) HV.out.lst pp hp256 W
      have hL1 := HV.out.lst
      have hL2 := (HV.out.take hp256).lst
      have hPb0 := hL1.bd pp
      rw [hat] at HPS
      rw [← HSN.out] at hpc hL2
      obtain ⟨P, hP⟩ : ∃ P : Int, P = (bsV idL (q.take i)).getD pp 0 := ⟨_, rfl⟩
      rw [← hP] at hpc HPS hPb0
      have hwp : IntKind.i64.wrap (pp : Int) = (pp : Int) := IntWalk.i64_in _ (by omega)
      obtain ⟨L1, hL1e⟩ : ∃ L1, L1 = bsV idL (q.take i) := ⟨_, rfl⟩
      obtain ⟨L2, hL2e⟩ : ∃ L2, L2 = bsV idL (q.take (i + 1)) := ⟨_, rfl⟩
      rw [← hL1e] at hpc hL1 HK
      rw [← hL2e] at hpc hL2
      have HL2E := Lib.hid hL2e
      have HPC := Lib.hid hpc
      clear hxb hpp hPb0
      clear hcb hat hpc hP hL1e hL2e HSN HV
      have hcell := HCELL.out
      have hin : (i : Int) < (n : Int) := by omega
      go_upto_region 6 with fail
      clear hcell hiq
      go_wp2_with (first
        | (refine wpList_load_row rfl 23 _ rfl g4 rfl 23 (ll L1) (0, 0) _ HK.out.lst Try.underlying23 rfl (lstIk hL1) ?_)
        | ((with_reducible refine (HPC.out _).mono ?_)
           rintro e w5 ⟨rfl, hb5⟩
           have HK5 := Lib.hid (HK.out.on hb5)
           have HK6 := Lib.hid (HK5.out.setL L2)
           have f0 := frozen_of_row _ gP i _ _ HK6.out.row
           have c0 : (w5.setRow g4 (ll L2)).cell? ⟨gP, i, none⟩ = some (.int .u8 ((padV (bkV idL q) i).getD i 0)) := by
             rw [cell_of_row _ gP i _ _ _ HK6.out.row, icells_get, List.getD_eq_getElem?_getD, List.getElem?_eq_getElem (by rw [HPL.out]; exact hlt)]
             rfl
           have hk7 := HK6.out.setP i P
           rw [HPS.out] at hk7
           have HK7 := Lib.hid hk7
           clear hk7)
        | (refine wpList_store_row rfl 23 _ _ rfl g4 (ll L2) rfl rfl 23 (ll L1) HK5.out.lst (lstIk hL2) (by rw [ll_size hL1, ll_size hL2]) (ll_all _) ?_))
      exact ⟨⟨i + 1, by omega, by go_num, by rw [← HL2E.out]; exact HK7.out⟩, by simp [intOf] <;> omega⟩
    · obtain rfl : i = n := by omega
      have hk := HK.out
      rw [← HFL.out, padV_all] at hk
      replace HK := Lib.hid hk
      clear hk
      go_wp2_with fail
      go_ret
      refine ⟨some gP, i, rfl, ?_, fun g e => by injection e with e; rw [← e]; exact HK.out.g1, HK.out.bel⟩
      have := OwnS.lit HK.out.row (by rw [HFL.out]; have := HN.out; omega)
      rw [HFL.out] at this
      exact this

end Go.Proofs.Ytaemmeofchonaaa
