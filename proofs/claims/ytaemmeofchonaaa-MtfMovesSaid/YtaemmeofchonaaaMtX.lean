/- winepressref13: Forth, Back (genmf.py). -/
import Derived.Test.YtaemmeofchonaaaMtW
import Derived.Test.YtaemmeofchonaaaMtP
set_option linter.unusedVariables false
set_option linter.unusedSimpArgs false
namespace Go.Proofs.Ytaemmeofchonaaa
open Go.RowKit

theorem byteT : Try.prog.underlying 24 = some (.slice 5) := Try.underlying24
theorem byteI : (Try.prog.info? 5).map (fun i => (i.zero, i.size, i.bytes)) = some (some (.int .u8 0), 1, 1) := by kernel_rfl
def Byts (l : List Int) : Prop := ∀ x ∈ l, 0 ≤ x ∧ x ≤ 255
theorem Byts.getD {l : List Int} (h : Byts l) (i : Nat) : 0 ≤ l.getD i 0 ∧ l.getD i 0 ≤ 255 := by
  rw [List.getD_eq_getElem?_getD]
  cases e : l[i]? with
  | none => simp
  | some x => exact h x (List.mem_of_getElem? e)
theorem ll_whole {w : World} {g : Nat} {t : TypeId} {fr : Nat × Nat} {l : List Int} (hg : w.heap[g]? = some (.cells (ll l) t fr)) : w.rangeAt g 0 (ll l).toList := fun j v hv => by
  rw [cell_of_row w g (0 + j) _ t fr hg, Nat.zero_add]
  rw [Array.getElem?_toList] at hv
  exact hv
theorem Src.get {w : World} {k : IntKind} {sp : Option Addr} {l : List Int} (h : Src w k sp l) {j : Nat} (hj : j < l.length) : ∃ g o, sp = some ⟨g, o, none⟩ ∧ w.cell? ⟨g, o + j, none⟩ = some (.int k (l.getD j 0)) := by
  rcases h with rfl | ⟨g, o, hx, hc⟩
  · simp at hj
  · exact ⟨g, o, hx, hc j hj⟩
theorem below_al (w : World) (o : Obj) : Below w.heap.size w (w.alloc o) := (Below.refl _ _).alloc (Nat.le_refl _) _
theorem take_snocD (q : List Int) (i : Nat) (hi : i < q.length) : q.take (i + 1) = q.take i ++ [q.getD i 0] := by
  rw [List.take_add_one, List.getElem?_eq_getElem hi, List.getD_eq_getElem?_getD, List.getElem?_eq_getElem hi]
  rfl
theorem take_byte {q : List Int} (h : Byts q) (i : Nat) : Byts (q.take i) := fun x hx => h x (List.mem_of_mem_take hx)
/-- The list behind these positions. -/
def bsV (l : List Int) : List Int → List Int
  | [] => l
  | p :: q => bsV (tkV l p.toNat) q
theorem bsV_vld {l : List Int} (h : Vld l) : ∀ q, (∀ c ∈ q, 0 ≤ c ∧ c ≤ 255) → Vld (bsV l q) := by
  intro q
  induction q generalizing l with
  | nil => intro _; exact h
  | cons c q ih =>
    intro hq
    have hc := hq c (by simp)
    exact ih (h.take (by omega)) (fun x hx => hq x (by simp [hx]))
theorem bsV_snoc (l : List Int) (c : Int) : ∀ q, bsV l (q ++ [c]) = tkV (bsV l q) c.toNat := by
  intro q
  induction q generalizing l with
  | nil => rfl
  | cons d q ih => exact ih _
theorem bkV_at (l : List Int) : ∀ (q : List Int) (i : Nat), i < q.length → (bkV l q).getD i 0 = (bsV l (q.take i)).getD (q.getD i 0).toNat 0 := by
  intro q
  induction q generalizing l with
  | nil => intro i h; simp at h
  | cons c q ih =>
    intro i h
    cases i with
    | zero => rfl
    | succ i =>
      have := ih (tkV l c.toNat) i (by simpa using h)
      simpa [bkV, bsV] using this
/-- The result so far and the list beside it. -/
structure FbK (w : World) (g4 : Nat) (A : Option Nat) (c : Nat) (out L : List Int) (W : World) : Prop where
  own : OwnS W .u8 5 A c out
  new : ∀ g, A = some g → w.heap.size ≤ g
  lst : W.heap[g4]? = some (.cells (ll L) 23 (0, 0))
  ge : w.heap.size ≤ g4
  bel : Below w.heap.size w W
section
variable {w W W' : World} {g4 c : Nat} {A : Option Nat} {out L : List Int}
theorem FbK.ne (h : FbK w g4 A c out L W) : A ≠ some g4 := by
  rintro rfl
  obtain ⟨cur, h1, _⟩ := h.own.row
  rw [h.lst] at h1
  injection h1 with h1
  injection h1 with _ h1 _
  revert h1
  decide
theorem FbK.on (h : FbK w g4 A c out L W) (hb : Below W.heap.size W W') : FbK w g4 A c out L W' := ⟨h.own.below hb, h.new, heap_on hb h.lst, h.ge, h.bel.trans (hb.mono h.bel.size)⟩
theorem FbK.alloc (h : FbK w g4 A c out L W) (ob : Obj) : FbK w g4 A c out L (W.alloc ob) := h.on (below_al _ _)
theorem FbK.set (h : FbK w g4 A c out L W) {L2 : List Int} : FbK w g4 A c out L2 (W.setRow g4 (ll L2)) :=
  ⟨h.own.ch (S := fun k => k = g4) ⟨rfl, rfl, rfl, by simp [World.setRow], fun k hk hn => setRow_other _ _ _ _ hn⟩ (fun g e e2 => h.ne (by rw [e, e2])), h.new, setRow_heap _ _ _ _ _ _ h.lst, h.ge, h.bel.setRow h.ge _⟩
theorem FbK.app {A' : Option Nat} {c' : Nat} {out2 : List Int} (h : FbK w g4 A c out L W) (h1 : OwnS W' .u8 5 A' c' out2) (h2 : W.grownBy W' A) (h3 : A' = A ∨ A' = some W.heap.size) : FbK w g4 A' c' out2 L W' :=
  ⟨h1, fun g e => by
    rcases h3 with h3 | h3
    · exact h.new g (h3 ▸ e)
    · rw [h3] at e
      injection e with e
      have := h.bel.size
      omega, (h2.block g4 (Array.getElem?_eq_some_iff.1 h.lst).1 (fun e => h.ne e.symm)).trans h.lst, h.ge, h.bel.grown h2 h.bel.size (fun g e => h.new g e)⟩
end

set_option maxRecDepth 100000 in
set_option maxHeartbeats 4000000 in
theorem rforth_call (sp : Option Addr) (n cap : Nat) (q : List Int) (hq : q.length = n) (hby : Byts q) (hn : n ≤ 1000) (w : World) (hs : Src w .u8 sp q) :
    Calls Try.prog 18 #[.slice sp n cap] w fun e w' => ∃ A c, e = .returned (.slice (ad0 A) n c) ∧ OwnS w' .u8 5 A c (fwV idL q) ∧ (∀ g, A = some g → w.heap.size ≤ g) ∧ Below w.heap.size w w' := by
  have HS := Lib.hid hs
  have HQ := Lib.hid hq
  have HY := Lib.hid hby
  clear hs hq hby
  have hz := lstZ
  have hs0 := ll_size zS_lst
  have hsI := ll_size idL_lst
  go_enter Try.func18, Try.ntmps18
  go_upto_region 3 with (first
    | ((with_reducible refine (rnew_call _).mono ?_)
       rintro e w2 ⟨rfl, hb2⟩)
    | (refine wpList_store_row rfl 23 _ _ rfl w2.heap.size (ll idL) rfl rfl 23 (ll zS) (heap_alloc_last w2 _) (lstIk idL_lst) (by rw [hs0, hsI]) (ll_all _) ?_))
  rw [World.setRow_alloc_new]
  try simp only [Act.put]
  have HK := Lib.hid (show FbK w w2.heap.size none 0 [] idL (w2.alloc (.cells (ll idL) 23)) from ⟨OwnS.nil _ _ _, (fun g e => by cases e), heap_alloc_last _ _, hb2.size, hb2.alloc hb2.size _⟩)
  obtain ⟨g4, hg4⟩ : ∃ g4, g4 = w2.heap.size := ⟨_, rfl⟩
  rw [← hg4] at HK ⊢
  clear hg4 hb2
  generalize w2.alloc (.cells (ll idL) 23) = w3 at HK ⊢
  go_wp2_with fail
  go_loopw [5, 3] (fun v o wr => ∃ (i : Nat) (A : Option Nat) (c : Nat), i ≤ n ∧ v = .int .i64 i ∧ o = .slice (ad0 A) i c ∧ FbK w g4 A c ((fwV idL q).take i) (lsV idL (q.take i)) wr) (fun v _ _ => n - (intOf v).toNat)
  case atStart => exact ⟨0, none, 0, by omega, rfl, rfl, HK.out⟩
  case round =>
    obtain ⟨i, A, c, hi, rfl, rfl, hk⟩ := hrel
    replace HK := Lib.hid hk
    have HX := Lib.hid hk.lst
    clear hk
    have hFl : (fwV idL q).length = n := by rw [fwV_len, HQ.out]
    by_cases hlt : i < n
    · have hiq : i < q.length := by rw [HQ.out]; exact hlt
      obtain ⟨g, o, rfl, hcb⟩ := HS.out.get hiq
      have HCELL := Lib.hid (show ∀ W : World, Below wr.heap.size wr W → W.cell? ⟨g, o + i, none⟩ = some (.int .u8 (q.getD i 0)) from fun W hW => by
        obtain ⟨g2, o2, e, h⟩ := ((HS.out.below HK.out.bel).below hW).get hiq
        injection e with e
        injection e with e1 e2
        subst e1 e2
        exact h)
      have hxb := HY.out.getD i
      have HSN := Lib.hid (show lsV idL (q.take (i + 1)) = (ptV (lsV idL (q.take i)) (q.getD i 0)).1 by rw [take_snocD q i hiq, lsV_snoc])
      have HTK := Lib.hid (take_snocD (fwV idL q) i (by rw [hFl]; exact hlt))
      have hol : ((fwV idL q).take i).length = i := by rw [List.length_take, hFl]; omega
      have HOL := Lib.hid hol
      have HV := Lib.hid (lsV_vld Vld.id (q.take i) (take_byte HY.out i))
      have hat := fwV_at idL q i hiq
      have hpc := fun W => rput_call (lsV idL (q.take i)) HV.out.lst (q.getD i 0) hxb W
      have hL1 := HV.out.lst
      have hL2 := (HV.out.front hxb).2.lst
      obtain ⟨pp, hp1, hp2, hp3⟩ := HV.out.pos hxb
      have hPP : (ptV (lsV idL (q.take i)) (q.getD i 0)).2 = (pp : Int) := by rw [ptV_some hp2]
      rw [hPP] at hat hpc
      rw [hat] at HTK
      rw [← HSN.out] at hpc hL2
      obtain ⟨P, hP⟩ : ∃ P : Int, P = (pp : Int) := ⟨_, rfl⟩
      have hPb : 0 ≤ P ∧ P ≤ 255 := by omega
      rw [← hP] at hpc HTK
      obtain ⟨L1, hL1e⟩ : ∃ L1, L1 = lsV idL (q.take i) := ⟨_, rfl⟩
      obtain ⟨L2, hL2e⟩ : ∃ L2, L2 = lsV idL (q.take (i + 1)) := ⟨_, rfl⟩
      rw [← hL1e] at hpc hL1 HX HK
      rw [← hL2e] at hpc hL2
      have HL2E := Lib.hid hL2e
      have HPC := Lib.hid hpc
      generalize q.getD i 0 = x at HCELL HPC hxb
      clear hat hpc hp1 hp2 hp3 hPP hP hL1e hL2e HSN HV
      clear hcb hol
      go_upto_region 6 with fail
      go_cut [6, 7] (fun s6 s7 wx => ∃ g6 : Nat, s6 = .pointer (some ⟨g6, 0, none⟩) ∧ s7 = .int .i64 P ∧ wx.heap[g6]? = some (.cells (ll L2) 23 (0, 0)) ∧ Below wr.heap.size wr wx)
      case first =>
        refine wp_region_noPanic ?_
        refine wp_region_held_drew (S := fun W => Below wr.heap.size wr W) (by kernel_rfl) ((Below.refl _ _).drew) (fun hHeld => ?_)
        refine wpAnyH_take (i := 0) (v := .agg (ll L1)) rfl (by kernel_rfl) (by kernel_rfl) (by kernel_rfl) (fun _ _ _ h => h) (yieldsIf_load_mid rfl 23 _ rfl g4 0 rfl ((ll L1).toList) _ (fun W hW => ll_whole (heap_on hW HX.out)) Try.underlying23 rfl (by rw [Array.length_toList]; exact lstIk hL1)) (by assumption) ?_
        try simp only [Act.put, List.getElem_toArray, List.getElem_cons_succ, List.getElem_cons_zero, List.setIfInBounds_toArray, List.set_cons_zero, List.set_cons_succ]
        refine wpAnyH_take (i := 1) (v := ?_) rfl (by kernel_rfl) (by kernel_rfl) (by kernel_rfl) (fun _ _ _ h => h) (Or.inl ⟨by rfl, ?_⟩) (by assumption) ?_
        rotate_left
        · (intro W hSw; go_simp) <;> with_reducible rfl
        try simp only [Act.put, List.getElem_toArray, List.getElem_cons_succ, List.getElem_cons_zero, List.setIfInBounds_toArray, List.set_cons_zero, List.set_cons_succ]
        refine wpAnyH_take (i := 2) (v := ?_) rfl (by kernel_rfl) (by kernel_rfl) (by kernel_rfl) (fun _ _ _ h => h) (Or.inl ⟨by rfl, ?_⟩) (by assumption) ?_
        rotate_left
        · (intro W hSw; go_simp) <;> with_reducible rfl
        try simp only [Act.put, List.getElem_toArray, List.getElem_cons_succ, List.getElem_cons_zero, List.setIfInBounds_toArray, List.set_cons_zero, List.set_cons_succ]
        refine wpAnyH_take (i := 3) (v := ?_) rfl (by kernel_rfl) (by kernel_rfl) (by kernel_rfl) (fun _ _ _ h => h) (Or.inl ⟨by rfl, ?_⟩) (by assumption) ?_
        rotate_left
        · (intro W hSw; have hcW := HCELL.out W hSw; go_simp) <;> with_reducible rfl
        try simp only [Act.put, List.getElem_toArray, List.getElem_cons_succ, List.getElem_cons_zero, List.setIfInBounds_toArray, List.set_cons_zero, List.set_cons_succ]
        refine wpAnyH_take (i := 4) (v := ?_) rfl (by kernel_rfl) (by kernel_rfl) (by kernel_rfl) (fun _ _ _ h => h) (Or.inl ⟨by rfl, ?_⟩) (by assumption) ?_
        rotate_left
        · (intro W hSw; have hcW := HCELL.out W hSw; go_simp) <;> with_reducible rfl
        try simp only [Act.put, List.getElem_toArray, List.getElem_cons_succ, List.getElem_cons_zero, List.setIfInBounds_toArray, List.set_cons_zero, List.set_cons_succ]
        refine wpAnyH_ready (rs := [5, 9]) (by kernel_rfl) (by simp) ?_
        refine AllReadyH.cons (o := _) rfl (fun K hK => ?_) (AllReadyH.cons (o := _) rfl (fun K hK => ?_) (AllReadyH.nil))
        · go_simp
          go_at_call 10
          refine (HPC.out _).mono ?_
          rintro e w5 ⟨rfl, hb5⟩
          have hle5 : wr.heap.size ≤ w5.heap.size := hb5.size
          refine hK.out _ _ (hHeld.trans (hb5.mono hHeld.size)) (fun hHeldN => ?_)
          clear hK K hHeld
          have hHeld := hHeldN
          clear hHeldN
          try simp only [Act.put, List.getElem_toArray, List.getElem_cons_succ, List.getElem_cons_zero, List.setIfInBounds_toArray, List.set_cons_zero, List.set_cons_succ]
          refine wpAnyH_take (i := 6) (v := ?_) rfl (by kernel_rfl) (by kernel_rfl) (by kernel_rfl) (fun _ _ _ h => h) (Or.inl ⟨by rfl, ?_⟩) (by assumption) ?_
          rotate_left
          · (intro W hSw; go_simp) <;> with_reducible rfl
          try simp only [Act.put, List.getElem_toArray, List.getElem_cons_succ, List.getElem_cons_zero, List.setIfInBounds_toArray, List.set_cons_zero, List.set_cons_succ]
          refine wpAnyH_take (i := 7) (v := ?_) rfl (by kernel_rfl) (by kernel_rfl) (by kernel_rfl) (fun _ _ _ h => h) (Or.inl ⟨by rfl, ?_⟩) (by assumption) ?_
          rotate_left
          · (intro W hSw; go_simp) <;> with_reducible rfl
          try simp only [Act.put, List.getElem_toArray, List.getElem_cons_succ, List.getElem_cons_zero, List.setIfInBounds_toArray, List.set_cons_zero, List.set_cons_succ]
          refine wpAnyH_take (i := 8) (v := ?_) rfl (by kernel_rfl) (by kernel_rfl) (by kernel_rfl) (fun _ _ _ h => h) (Or.inl ⟨by rfl, ?_⟩) (by assumption) ?_
          rotate_left
          · (intro W hSw; go_simp) <;> with_reducible rfl
          try simp only [Act.put, List.getElem_toArray, List.getElem_cons_succ, List.getElem_cons_zero, List.setIfInBounds_toArray, List.set_cons_zero, List.set_cons_succ]
          refine wpAnyH_ready (rs := [9]) (by kernel_rfl) (by simp) ?_
          refine AllReadyH.cons (o := _) rfl (fun K hK => ?_) (AllReadyH.nil)
          go_simp
          have hr7 := heap_alloc_last w5 (.cells (ll zS) 23)
          refine hK.out _ _ (hHeld.alloc hHeld.size _) (fun hHeldN => ?_)
          clear K hK hHeld
          have hHeld := hHeldN
          clear hHeldN
          try simp only [Act.put, List.getElem_toArray, List.getElem_cons_succ, List.getElem_cons_zero, List.setIfInBounds_toArray, List.set_cons_zero, List.set_cons_succ]
          refine wpAnyH_ready (rs := [10]) (by kernel_rfl) (by simp) ?_
          refine AllReadyH.cons (o := _) rfl (fun K hK => ?_) (AllReadyH.nil)
          rw [if_pos (by rfl)]
          refine wp_store_row 23 _ _ rfl w5.heap.size (ll L2) rfl rfl 23 (ll zS) hr7 (lstIk hL2) (by rw [hs0, ll_size hL2]) (ll_all _) ?_
          refine hK.out _ _ (hHeld.setRow (by omega) _) (fun hHeldN => ?_)
          clear K hK hHeld
          have hHeld := hHeldN
          clear hHeldN
          try simp only [Act.put, List.getElem_toArray, List.getElem_cons_succ, List.getElem_cons_zero, List.setIfInBounds_toArray, List.set_cons_zero, List.set_cons_succ]
          refine wpAnyH_take (i := 11) (v := ?_) rfl (by kernel_rfl) (by kernel_rfl) (by kernel_rfl) (fun _ _ _ h => h) (Or.inl ⟨by rfl, ?_⟩) (by assumption) ?_
          rotate_left
          · (intro W hSw; go_simp) <;> with_reducible rfl
          try simp only [Act.put, List.getElem_toArray, List.getElem_cons_succ, List.getElem_cons_zero, List.setIfInBounds_toArray, List.set_cons_zero, List.set_cons_succ]
          refine wpAnyH_done (by kernel_rfl) ?_ _
          refine NoPanic.normal ?_
          have hrr := setRow_heap _ _ _ (ll L2) _ _ hr7
          go_wp2
          go_meet
          exact ⟨w5.heap.size, rfl, rfl, hrr, hHeld⟩
        · go_simp
          have hr70 := heap_alloc_last wr.drew (.cells (ll zS) 23)
          refine hK.out _ _ (hHeld.alloc hHeld.size _) (fun hHeldN => ?_)
          clear K hK hHeld
          have hHeld := hHeldN
          clear hHeldN
          try simp only [Act.put, List.getElem_toArray, List.getElem_cons_succ, List.getElem_cons_zero, List.setIfInBounds_toArray, List.set_cons_zero, List.set_cons_succ]
          refine wpAnyH_ready (rs := [5]) (by kernel_rfl) (by simp) ?_
          refine AllReadyH.cons (o := _) rfl (fun K hK => ?_) (AllReadyH.nil)
          go_simp
          go_at_call 10
          refine (HPC.out _).mono ?_
          rintro e w5 ⟨rfl, hb5⟩
          have hr7 := heap_on hb5 hr70
          refine hK.out _ _ (hHeld.trans (hb5.mono hHeld.size)) (fun hHeldN => ?_)
          clear hK K hHeld hr70
          have hHeld := hHeldN
          clear hHeldN
          try simp only [Act.put, List.getElem_toArray, List.getElem_cons_succ, List.getElem_cons_zero, List.setIfInBounds_toArray, List.set_cons_zero, List.set_cons_succ]
          refine wpAnyH_take (i := 6) (v := ?_) rfl (by kernel_rfl) (by kernel_rfl) (by kernel_rfl) (fun _ _ _ h => h) (Or.inl ⟨by rfl, ?_⟩) (by assumption) ?_
          rotate_left
          · (intro W hSw; go_simp) <;> with_reducible rfl
          try simp only [Act.put, List.getElem_toArray, List.getElem_cons_succ, List.getElem_cons_zero, List.setIfInBounds_toArray, List.set_cons_zero, List.set_cons_succ]
          refine wpAnyH_take (i := 7) (v := ?_) rfl (by kernel_rfl) (by kernel_rfl) (by kernel_rfl) (fun _ _ _ h => h) (Or.inl ⟨by rfl, ?_⟩) (by assumption) ?_
          rotate_left
          · (intro W hSw; go_simp) <;> with_reducible rfl
          try simp only [Act.put, List.getElem_toArray, List.getElem_cons_succ, List.getElem_cons_zero, List.setIfInBounds_toArray, List.set_cons_zero, List.set_cons_succ]
          refine wpAnyH_take (i := 8) (v := ?_) rfl (by kernel_rfl) (by kernel_rfl) (by kernel_rfl) (fun _ _ _ h => h) (Or.inl ⟨by rfl, ?_⟩) (by assumption) ?_
          rotate_left
          · (intro W hSw; go_simp) <;> with_reducible rfl
          try simp only [Act.put, List.getElem_toArray, List.getElem_cons_succ, List.getElem_cons_zero, List.setIfInBounds_toArray, List.set_cons_zero, List.set_cons_succ]
          refine wpAnyH_ready (rs := [10]) (by kernel_rfl) (by simp) ?_
          refine AllReadyH.cons (o := _) rfl (fun K hK => ?_) (AllReadyH.nil)
          rw [if_pos (by rfl)]
          refine wp_store_row 23 _ _ rfl wr.heap.size (ll L2) rfl rfl 23 (ll zS) hr7 (lstIk hL2) (by rw [hs0, ll_size hL2]) (ll_all _) ?_
          refine hK.out _ _ (hHeld.setRow (by omega) _) (fun hHeldN => ?_)
          clear K hK hHeld
          have hHeld := hHeldN
          clear hHeldN
          try simp only [Act.put, List.getElem_toArray, List.getElem_cons_succ, List.getElem_cons_zero, List.setIfInBounds_toArray, List.set_cons_zero, List.set_cons_succ]
          refine wpAnyH_take (i := 11) (v := ?_) rfl (by kernel_rfl) (by kernel_rfl) (by kernel_rfl) (fun _ _ _ h => h) (Or.inl ⟨by rfl, ?_⟩) (by assumption) ?_
          rotate_left
          · (intro W hSw; go_simp) <;> with_reducible rfl
          try simp only [Act.put, List.getElem_toArray, List.getElem_cons_succ, List.getElem_cons_zero, List.setIfInBounds_toArray, List.set_cons_zero, List.set_cons_succ]
          refine wpAnyH_done (by kernel_rfl) ?_ _
          refine NoPanic.normal ?_
          have hrr := setRow_heap _ _ _ (ll L2) _ _ hr7
          go_wp2
          go_meet
          exact ⟨wr.heap.size, rfl, rfl, hrr, hHeld⟩
      case rest =>
        obtain ⟨g6, rfl, rfl, h6, hb6⟩ := hcut
        have HK6 := Lib.hid (HK.out.on hb6)
        have hx6 := heap_on hb6 HX.out
        clear hb6 HX HCELL
        go_upto_region 8 with (first
          | (refine wpList_load_row rfl 23 _ rfl g6 rfl 23 (ll L2) (0, 0) _ h6 Try.underlying23 rfl (lstIk hL2) ?_)
          | (refine wpList_store_row rfl 23 _ _ rfl g4 (ll L2) rfl rfl 23 (ll L1) hx6 (lstIk hL2) (by rw [ll_size hL1, ll_size hL2]) (ll_all _) ?_))
        try simp only [Act.put]
        have HK7 := Lib.hid (HK6.out.set (L2 := L2))
        clear h6 hx6
        generalize wc.setRow g4 (ll L2) = w7 at HK7 ⊢
        have hw8 : IntKind.u8.wrap P = P := IntWalk.u8_in _ (by omega)
        go_wp2_with (first
          | (refine wpList_appendI rfl _ _ 24 rfl 5 .u8 1 byteT byteI A c ((fwV idL q).take i) i HOL.out rfl (HK7.out.own.alloc _) (some ⟨w7.heap.size, 0, none⟩) 1 1 rfl [P] rfl (Src.whole (l := [P]) (heap_alloc_last w7 _)) (by unfold maxLen; omega) (by omega) ?_
             intro A' c' w8 h1 h2 h3
             have hk8 := (HK7.out.alloc _).app h1 h2 h3
             rw [← HTK.out] at hk8
             have HK8 := Lib.hid hk8
             clear hk8 h1 h2 h3))
        exact ⟨⟨i + 1, A', c', by omega, by go_num, rfl, by rw [← HL2E.out]; exact HK8.out⟩, by simp [intOf] <;> omega⟩
    · obtain rfl : i = n := by omega
      have hk := HK.out
      rw [List.take_of_length_le (by rw [hFl]; exact Nat.le_refl _)] at hk
      replace HK := Lib.hid hk
      clear hk
      go_wp2_with fail
      go_ret
      exact ⟨A, c, rfl, HK.out.own, HK.out.new, HK.out.bel⟩
set_option maxRecDepth 100000 in
set_option maxHeartbeats 4000000 in
theorem rback_call (sp : Option Addr) (n cap : Nat) (q : List Int) (hq : q.length = n) (hby : Byts q) (hn : n ≤ 1000) (w : World) (hs : Src w .u8 sp q) :
    Calls Try.prog 20 #[.slice sp n cap] w fun e w' => ∃ A c, e = .returned (.slice (ad0 A) n c) ∧ OwnS w' .u8 5 A c (bkV idL q) ∧ (∀ g, A = some g → w.heap.size ≤ g) ∧ Below w.heap.size w w' := by
  have HS := Lib.hid hs
  have HQ := Lib.hid hq
  have HY := Lib.hid hby
  clear hs hq hby
  have hz := lstZ
  have hs0 := ll_size zS_lst
  have hsI := ll_size idL_lst
  go_enter Try.func20, Try.ntmps20
  go_upto_region 3 with (first
    | ((with_reducible refine (rnew_call _).mono ?_)
       rintro e w2 ⟨rfl, hb2⟩)
    | (refine wpList_store_row rfl 23 _ _ rfl w2.heap.size (ll idL) rfl rfl 23 (ll zS) (heap_alloc_last w2 _) (lstIk idL_lst) (by rw [hs0, hsI]) (ll_all _) ?_))
  rw [World.setRow_alloc_new]
  try simp only [Act.put]
  have HK := Lib.hid (show FbK w w2.heap.size none 0 [] idL (w2.alloc (.cells (ll idL) 23)) from ⟨OwnS.nil _ _ _, (fun g e => by cases e), heap_alloc_last _ _, hb2.size, hb2.alloc hb2.size _⟩)
  obtain ⟨g4, hg4⟩ : ∃ g4, g4 = w2.heap.size := ⟨_, rfl⟩
  rw [← hg4] at HK ⊢
  clear hg4 hb2
  generalize w2.alloc (.cells (ll idL) 23) = w3 at HK ⊢
  go_wp2_with fail
  go_loopw [5, 3] (fun v o wr => ∃ (i : Nat) (A : Option Nat) (c : Nat), i ≤ n ∧ v = .int .i64 i ∧ o = .slice (ad0 A) i c ∧ FbK w g4 A c ((bkV idL q).take i) (bsV idL (q.take i)) wr) (fun v _ _ => n - (intOf v).toNat)
  case atStart => exact ⟨0, none, 0, by omega, rfl, rfl, HK.out⟩
  case round =>
    obtain ⟨i, A, c, hi, rfl, rfl, hk⟩ := hrel
    replace HK := Lib.hid hk
    have HX := Lib.hid hk.lst
    clear hk
    have hFl : (bkV idL q).length = n := by rw [bkV_len, HQ.out]
    by_cases hlt : i < n
    · have hiq : i < q.length := by rw [HQ.out]; exact hlt
      obtain ⟨g, o, rfl, hcb⟩ := HS.out.get hiq
      have HCELL := Lib.hid (show ∀ W : World, Below wr.heap.size wr W → W.cell? ⟨g, o + i, none⟩ = some (.int .u8 (q.getD i 0)) from fun W hW => by
        obtain ⟨g2, o2, e, h⟩ := ((HS.out.below HK.out.bel).below hW).get hiq
        injection e with e
        injection e with e1 e2
        subst e1 e2
        exact h)
      have hxb := HY.out.getD i
      have HSN := Lib.hid (show bsV idL (q.take (i + 1)) = tkV (bsV idL (q.take i)) (q.getD i 0).toNat by rw [take_snocD q i hiq, bsV_snoc])
      have HTK := Lib.hid (take_snocD (bkV idL q) i (by rw [hFl]; exact hlt))
      have hol : ((bkV idL q).take i).length = i := by rw [List.length_take, hFl]; omega
      have HOL := Lib.hid hol
      have HV := Lib.hid (bsV_vld Vld.id (q.take i) (take_byte HY.out i))
      obtain ⟨pp, hpp⟩ : ∃ pp : Nat, q.getD i 0 = (pp : Int) := ⟨(q.getD i 0).toNat, by omega⟩
      have hp256 : pp < 256 := by omega
      have hat := bkV_at idL q i hiq
      rw [hpp] at HCELL HSN hat
      rw [Int.toNat_natCast] at HSN hat
      have hpc := fun W => rtake_yes (bsV idL (q.take i)) HV.out.lst pp hp256 W
      have hL1 := HV.out.lst
      have hL2 := (HV.out.take hp256).lst
      have hPb0 := hL1.bd pp
      rw [hat] at HTK
      rw [← HSN.out] at hpc hL2
      obtain ⟨P, hP⟩ : ∃ P : Int, P = (bsV idL (q.take i)).getD pp 0 := ⟨_, rfl⟩
      rw [← hP] at hpc HTK hPb0
      have hPb : 0 ≤ P ∧ P ≤ 255 := hPb0
      have hwp : IntKind.i64.wrap (pp : Int) = (pp : Int) := IntWalk.i64_in _ (by omega)
      obtain ⟨L1, hL1e⟩ : ∃ L1, L1 = bsV idL (q.take i) := ⟨_, rfl⟩
      obtain ⟨L2, hL2e⟩ : ∃ L2, L2 = bsV idL (q.take (i + 1)) := ⟨_, rfl⟩
      rw [← hL1e] at hpc hL1 HX HK
      rw [← hL2e] at hpc hL2
      have HL2E := Lib.hid hL2e
      have HPC := Lib.hid hpc
      clear hat hpc hP hL1e hL2e HSN HV hPb0 hpp hxb
      clear hcb hol
      go_upto_region 6 with fail
      go_cut [6, 7, 8] (fun s6 s7 s8 wx => ∃ g6 : Nat, s6 = .pointer (some ⟨g6, 0, none⟩) ∧ s7 = .int .u8 P ∧ s8 = .bool true ∧ wx.heap[g6]? = some (.cells (ll L2) 23 (0, 0)) ∧ Below wr.heap.size wr wx)
      case first =>
        refine wp_region_noPanic ?_
        refine wp_region_held_drew (S := fun W => Below wr.heap.size wr W) (by kernel_rfl) ((Below.refl _ _).drew) (fun hHeld => ?_)
        refine wpAnyH_take (i := 0) (v := .agg (ll L1)) rfl (by kernel_rfl) (by kernel_rfl) (by kernel_rfl) (fun _ _ _ h => h) (yieldsIf_load_mid rfl 23 _ rfl g4 0 rfl ((ll L1).toList) _ (fun W hW => ll_whole (heap_on hW HX.out)) Try.underlying23 rfl (by rw [Array.length_toList]; exact lstIk hL1)) (by assumption) ?_
        try simp only [Act.put, List.getElem_toArray, List.getElem_cons_succ, List.getElem_cons_zero, List.setIfInBounds_toArray, List.set_cons_zero, List.set_cons_succ]
        refine wpAnyH_take (i := 1) (v := ?_) rfl (by kernel_rfl) (by kernel_rfl) (by kernel_rfl) (fun _ _ _ h => h) (Or.inl ⟨by rfl, ?_⟩) (by assumption) ?_
        rotate_left
        · (intro W hSw; go_simp) <;> with_reducible rfl
        try simp only [Act.put, List.getElem_toArray, List.getElem_cons_succ, List.getElem_cons_zero, List.setIfInBounds_toArray, List.set_cons_zero, List.set_cons_succ]
        refine wpAnyH_take (i := 2) (v := ?_) rfl (by kernel_rfl) (by kernel_rfl) (by kernel_rfl) (fun _ _ _ h => h) (Or.inl ⟨by rfl, ?_⟩) (by assumption) ?_
        rotate_left
        · (intro W hSw; go_simp) <;> with_reducible rfl
        try simp only [Act.put, List.getElem_toArray, List.getElem_cons_succ, List.getElem_cons_zero, List.setIfInBounds_toArray, List.set_cons_zero, List.set_cons_succ]
        refine wpAnyH_take (i := 3) (v := ?_) rfl (by kernel_rfl) (by kernel_rfl) (by kernel_rfl) (fun _ _ _ h => h) (Or.inl ⟨by rfl, ?_⟩) (by assumption) ?_
        rotate_left
        · (intro W hSw; have hcW := HCELL.out W hSw; go_simp) <;> with_reducible rfl
        try simp only [Act.put, List.getElem_toArray, List.getElem_cons_succ, List.getElem_cons_zero, List.setIfInBounds_toArray, List.set_cons_zero, List.set_cons_succ]
        refine wpAnyH_take (i := 4) (v := ?_) rfl (by kernel_rfl) (by kernel_rfl) (by kernel_rfl) (fun _ _ _ h => h) (Or.inl ⟨by rfl, ?_⟩) (by assumption) ?_
        rotate_left
        · (intro W hSw; have hcW := HCELL.out W hSw; go_simp) <;> with_reducible rfl
        try simp only [Act.put, List.getElem_toArray, List.getElem_cons_succ, List.getElem_cons_zero, List.setIfInBounds_toArray, List.set_cons_zero, List.set_cons_succ]
        refine wpAnyH_take (i := 5) (v := ?_) rfl (by kernel_rfl) (by kernel_rfl) (by kernel_rfl) (fun _ _ _ h => h) (Or.inl ⟨by rfl, ?_⟩) (by assumption) ?_
        rotate_left
        · (intro W hSw; go_simp) <;> with_reducible rfl
        try simp only [Act.put, List.getElem_toArray, List.getElem_cons_succ, List.getElem_cons_zero, List.setIfInBounds_toArray, List.set_cons_zero, List.set_cons_succ]
        refine wpAnyH_ready (rs := [6, 11]) (by kernel_rfl) (by simp) ?_
        refine AllReadyH.cons (o := _) rfl (fun K hK => ?_) (AllReadyH.cons (o := _) rfl (fun K hK => ?_) (AllReadyH.nil))
        · go_simp
          go_at_call 12
          refine (HPC.out _).mono ?_
          rintro e w5 ⟨rfl, hb5⟩
          have hle5 : wr.heap.size ≤ w5.heap.size := hb5.size
          refine hK.out _ _ (hHeld.trans (hb5.mono hHeld.size)) (fun hHeldN => ?_)
          clear hK K hHeld
          have hHeld := hHeldN
          clear hHeldN
          try simp only [Act.put, List.getElem_toArray, List.getElem_cons_succ, List.getElem_cons_zero, List.setIfInBounds_toArray, List.set_cons_zero, List.set_cons_succ]
          refine wpAnyH_take (i := 7) (v := ?_) rfl (by kernel_rfl) (by kernel_rfl) (by kernel_rfl) (fun _ _ _ h => h) (Or.inl ⟨by rfl, ?_⟩) (by assumption) ?_
          rotate_left
          · (intro W hSw; go_simp) <;> with_reducible rfl
          try simp only [Act.put, List.getElem_toArray, List.getElem_cons_succ, List.getElem_cons_zero, List.setIfInBounds_toArray, List.set_cons_zero, List.set_cons_succ]
          refine wpAnyH_take (i := 8) (v := ?_) rfl (by kernel_rfl) (by kernel_rfl) (by kernel_rfl) (fun _ _ _ h => h) (Or.inl ⟨by rfl, ?_⟩) (by assumption) ?_
          rotate_left
          · (intro W hSw; go_simp) <;> with_reducible rfl
          try simp only [Act.put, List.getElem_toArray, List.getElem_cons_succ, List.getElem_cons_zero, List.setIfInBounds_toArray, List.set_cons_zero, List.set_cons_succ]
          refine wpAnyH_take (i := 9) (v := ?_) rfl (by kernel_rfl) (by kernel_rfl) (by kernel_rfl) (fun _ _ _ h => h) (Or.inl ⟨by rfl, ?_⟩) (by assumption) ?_
          rotate_left
          · (intro W hSw; go_simp) <;> with_reducible rfl
          try simp only [Act.put, List.getElem_toArray, List.getElem_cons_succ, List.getElem_cons_zero, List.setIfInBounds_toArray, List.set_cons_zero, List.set_cons_succ]
          refine wpAnyH_take (i := 10) (v := ?_) rfl (by kernel_rfl) (by kernel_rfl) (by kernel_rfl) (fun _ _ _ h => h) (Or.inl ⟨by rfl, ?_⟩) (by assumption) ?_
          rotate_left
          · (intro W hSw; go_simp) <;> with_reducible rfl
          try simp only [Act.put, List.getElem_toArray, List.getElem_cons_succ, List.getElem_cons_zero, List.setIfInBounds_toArray, List.set_cons_zero, List.set_cons_succ]
          refine wpAnyH_ready (rs := [11]) (by kernel_rfl) (by simp) ?_
          refine AllReadyH.cons (o := _) rfl (fun K hK => ?_) (AllReadyH.nil)
          go_simp
          have hr7 := heap_alloc_last w5 (.cells (ll zS) 23)
          refine hK.out _ _ (hHeld.alloc hHeld.size _) (fun hHeldN => ?_)
          clear K hK hHeld
          have hHeld := hHeldN
          clear hHeldN
          try simp only [Act.put, List.getElem_toArray, List.getElem_cons_succ, List.getElem_cons_zero, List.setIfInBounds_toArray, List.set_cons_zero, List.set_cons_succ]
          refine wpAnyH_ready (rs := [12]) (by kernel_rfl) (by simp) ?_
          refine AllReadyH.cons (o := _) rfl (fun K hK => ?_) (AllReadyH.nil)
          rw [if_pos (by rfl)]
          refine wp_store_row 23 _ _ rfl w5.heap.size (ll L2) rfl rfl 23 (ll zS) hr7 (lstIk hL2) (by rw [hs0, ll_size hL2]) (ll_all _) ?_
          refine hK.out _ _ (hHeld.setRow (by omega) _) (fun hHeldN => ?_)
          clear K hK hHeld
          have hHeld := hHeldN
          clear hHeldN
          try simp only [Act.put, List.getElem_toArray, List.getElem_cons_succ, List.getElem_cons_zero, List.setIfInBounds_toArray, List.set_cons_zero, List.set_cons_succ]
          refine wpAnyH_take (i := 13) (v := ?_) rfl (by kernel_rfl) (by kernel_rfl) (by kernel_rfl) (fun _ _ _ h => h) (Or.inl ⟨by rfl, ?_⟩) (by assumption) ?_
          rotate_left
          · (intro W hSw; go_simp) <;> with_reducible rfl
          try simp only [Act.put, List.getElem_toArray, List.getElem_cons_succ, List.getElem_cons_zero, List.setIfInBounds_toArray, List.set_cons_zero, List.set_cons_succ]
          refine wpAnyH_take (i := 14) (v := ?_) rfl (by kernel_rfl) (by kernel_rfl) (by kernel_rfl) (fun _ _ _ h => h) (Or.inl ⟨by rfl, ?_⟩) (by assumption) ?_
          rotate_left
          · (intro W hSw; go_simp) <;> with_reducible rfl
          try simp only [Act.put, List.getElem_toArray, List.getElem_cons_succ, List.getElem_cons_zero, List.setIfInBounds_toArray, List.set_cons_zero, List.set_cons_succ]
          refine wpAnyH_done (by kernel_rfl) ?_ _
          refine NoPanic.normal ?_
          have hrr := setRow_heap _ _ _ (ll L2) _ _ hr7
          go_wp2
          go_meet
          exact ⟨w5.heap.size, rfl, rfl, rfl, hrr, hHeld⟩
        · go_simp
          have hr70 := heap_alloc_last wr.drew (.cells (ll zS) 23)
          refine hK.out _ _ (hHeld.alloc hHeld.size _) (fun hHeldN => ?_)
          clear K hK hHeld
          have hHeld := hHeldN
          clear hHeldN
          try simp only [Act.put, List.getElem_toArray, List.getElem_cons_succ, List.getElem_cons_zero, List.setIfInBounds_toArray, List.set_cons_zero, List.set_cons_succ]
          refine wpAnyH_ready (rs := [6]) (by kernel_rfl) (by simp) ?_
          refine AllReadyH.cons (o := _) rfl (fun K hK => ?_) (AllReadyH.nil)
          go_simp
          go_at_call 12
          refine (HPC.out _).mono ?_
          rintro e w5 ⟨rfl, hb5⟩
          have hr7 := heap_on hb5 hr70
          refine hK.out _ _ (hHeld.trans (hb5.mono hHeld.size)) (fun hHeldN => ?_)
          clear hK K hHeld hr70
          have hHeld := hHeldN
          clear hHeldN
          try simp only [Act.put, List.getElem_toArray, List.getElem_cons_succ, List.getElem_cons_zero, List.setIfInBounds_toArray, List.set_cons_zero, List.set_cons_succ]
          refine wpAnyH_take (i := 7) (v := ?_) rfl (by kernel_rfl) (by kernel_rfl) (by kernel_rfl) (fun _ _ _ h => h) (Or.inl ⟨by rfl, ?_⟩) (by assumption) ?_
          rotate_left
          · (intro W hSw; go_simp) <;> with_reducible rfl
          try simp only [Act.put, List.getElem_toArray, List.getElem_cons_succ, List.getElem_cons_zero, List.setIfInBounds_toArray, List.set_cons_zero, List.set_cons_succ]
          refine wpAnyH_take (i := 8) (v := ?_) rfl (by kernel_rfl) (by kernel_rfl) (by kernel_rfl) (fun _ _ _ h => h) (Or.inl ⟨by rfl, ?_⟩) (by assumption) ?_
          rotate_left
          · (intro W hSw; go_simp) <;> with_reducible rfl
          try simp only [Act.put, List.getElem_toArray, List.getElem_cons_succ, List.getElem_cons_zero, List.setIfInBounds_toArray, List.set_cons_zero, List.set_cons_succ]
          refine wpAnyH_take (i := 9) (v := ?_) rfl (by kernel_rfl) (by kernel_rfl) (by kernel_rfl) (fun _ _ _ h => h) (Or.inl ⟨by rfl, ?_⟩) (by assumption) ?_
          rotate_left
          · (intro W hSw; go_simp) <;> with_reducible rfl
          try simp only [Act.put, List.getElem_toArray, List.getElem_cons_succ, List.getElem_cons_zero, List.setIfInBounds_toArray, List.set_cons_zero, List.set_cons_succ]
          refine wpAnyH_take (i := 10) (v := ?_) rfl (by kernel_rfl) (by kernel_rfl) (by kernel_rfl) (fun _ _ _ h => h) (Or.inl ⟨by rfl, ?_⟩) (by assumption) ?_
          rotate_left
          · (intro W hSw; go_simp) <;> with_reducible rfl
          try simp only [Act.put, List.getElem_toArray, List.getElem_cons_succ, List.getElem_cons_zero, List.setIfInBounds_toArray, List.set_cons_zero, List.set_cons_succ]
          refine wpAnyH_ready (rs := [12]) (by kernel_rfl) (by simp) ?_
          refine AllReadyH.cons (o := _) rfl (fun K hK => ?_) (AllReadyH.nil)
          rw [if_pos (by rfl)]
          refine wp_store_row 23 _ _ rfl wr.heap.size (ll L2) rfl rfl 23 (ll zS) hr7 (lstIk hL2) (by rw [hs0, ll_size hL2]) (ll_all _) ?_
          refine hK.out _ _ (hHeld.setRow (by omega) _) (fun hHeldN => ?_)
          clear K hK hHeld
          have hHeld := hHeldN
          clear hHeldN
          try simp only [Act.put, List.getElem_toArray, List.getElem_cons_succ, List.getElem_cons_zero, List.setIfInBounds_toArray, List.set_cons_zero, List.set_cons_succ]
          refine wpAnyH_take (i := 13) (v := ?_) rfl (by kernel_rfl) (by kernel_rfl) (by kernel_rfl) (fun _ _ _ h => h) (Or.inl ⟨by rfl, ?_⟩) (by assumption) ?_
          rotate_left
          · (intro W hSw; go_simp) <;> with_reducible rfl
          try simp only [Act.put, List.getElem_toArray, List.getElem_cons_succ, List.getElem_cons_zero, List.setIfInBounds_toArray, List.set_cons_zero, List.set_cons_succ]
          refine wpAnyH_take (i := 14) (v := ?_) rfl (by kernel_rfl) (by kernel_rfl) (by kernel_rfl) (fun _ _ _ h => h) (Or.inl ⟨by rfl, ?_⟩) (by assumption) ?_
          rotate_left
          · (intro W hSw; go_simp) <;> with_reducible rfl
          try simp only [Act.put, List.getElem_toArray, List.getElem_cons_succ, List.getElem_cons_zero, List.setIfInBounds_toArray, List.set_cons_zero, List.set_cons_succ]
          refine wpAnyH_done (by kernel_rfl) ?_ _
          refine NoPanic.normal ?_
          have hrr := setRow_heap _ _ _ (ll L2) _ _ hr7
          go_wp2
          go_meet
          exact ⟨wr.heap.size, rfl, rfl, rfl, hrr, hHeld⟩
      case rest =>
        obtain ⟨g6, rfl, rfl, rfl, h6, hb6⟩ := hcut
        have HK6 := Lib.hid (HK.out.on hb6)
        have hx6 := heap_on hb6 HX.out
        clear hb6 HX HCELL
        go_upto_region 8 with (first
          | (refine wpList_load_row rfl 23 _ rfl g6 rfl 23 (ll L2) (0, 0) _ h6 Try.underlying23 rfl (lstIk hL2) ?_)
          | (refine wpList_store_row rfl 23 _ _ rfl g4 (ll L2) rfl rfl 23 (ll L1) hx6 (lstIk hL2) (by rw [ll_size hL1, ll_size hL2]) (ll_all _) ?_))
        try simp only [Act.put]
        have HK7 := Lib.hid (HK6.out.set (L2 := L2))
        clear h6 hx6
        generalize wc.setRow g4 (ll L2) = w7 at HK7 ⊢
        have hw8 : IntKind.u8.wrap P = P := IntWalk.u8_in _ (by omega)
        go_wp2_with (first
          | (refine wpList_appendI rfl _ _ 24 rfl 5 .u8 1 byteT byteI A c ((bkV idL q).take i) i HOL.out rfl (HK7.out.own.alloc _) (some ⟨w7.heap.size, 0, none⟩) 1 1 rfl [P] rfl (Src.whole (l := [P]) (heap_alloc_last w7 _)) (by unfold maxLen; omega) (by omega) ?_
             intro A' c' w8 h1 h2 h3
             have hk8 := (HK7.out.alloc _).app h1 h2 h3
             rw [← HTK.out] at hk8
             have HK8 := Lib.hid hk8
             clear hk8 h1 h2 h3))
        exact ⟨⟨i + 1, A', c', by omega, by go_num, rfl, by rw [← HL2E.out]; exact HK8.out⟩, by simp [intOf] <;> omega⟩
    · obtain rfl : i = n := by omega
      have hk := HK.out
      rw [List.take_of_length_le (by rw [hFl]; exact Nat.le_refl _)] at hk
      replace HK := Lib.hid hk
      clear hk
      go_wp2_with fail
      go_ret
      exact ⟨A, c, rfl, HK.out.own, HK.out.new, HK.out.bel⟩
end Go.Proofs.Ytaemmeofchonaaa
