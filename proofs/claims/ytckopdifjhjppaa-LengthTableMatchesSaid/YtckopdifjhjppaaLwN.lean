/- Law LengthTableAny. -/
import Derived.Test.YtckopdifjhjppaaLwK
import Derived.Test.YtckopdifjhjppaaLwB
set_option linter.unusedVariables false
set_option linter.unusedSimpArgs false
namespace Go.Proofs.Ytckopdifjhjppaa
open Go.RowKit

theorem Rdg.lng {q : List Int} {k : Nat} {c : TS} (h : Rdg q k c) : Tst c := by
  obtain ⟨_, ⟨f, r, _⟩, _⟩ := h
  exact r.tst
/-- What one step tells of the reading. -/
theorem Rdg.tell {q : List Int} {k : Nat} {c : TS} (h : Rdg q k c) (hk : k < q.length) {X : List Int × Nat × Int} (hX : readS tableV z0 0 q = X) :
    (∃ D dn E, stepS tableV c (q.getD k 0) = (D, dn, E) ∧ D.L.length = 258 ∧ ((E = 2 ∧ X = (zL, 0, 2)) ∨ (E = 100 ∧ X = (zL, 0, 100)) ∨ (E = 0 ∧ dn = true ∧ Lng D.L ∧ X = (D.L, k + 1, 0)) ∨ (E = 0 ∧ dn = false ∧ validS tableV D = true ∧ Tst D ∧ Rdg q (k + 1) D))) := by
  have hon := h.on hk
  obtain ⟨hy, ⟨f, hr, hc⟩, he⟩ := h
  have hv := valid_of hr
  have hy0 := hr.y0
  rw [hX, drop_at q k hk] at he
  unfold stepS
  rw [hv]
  generalize q.getD k 0 = b at he hon ⊢
  by_cases hb : b = 0 ∨ b = 1
  · cases hw : wayB tableV c b with
    | false =>
      rw [readS_bad tableV c k hb hw] at he
      exact ⟨z0, false, 100, by rw [if_neg (by simp; exact ⟨hy, hb.resolve_left⟩), if_pos rfl], z0_len, Or.inr (Or.inl ⟨rfl, he⟩)⟩
    | true =>
      have hst := (hr.step hc (by omega) hb hw).1
      have hl : (wayS c b).L.length = 258 := hst.len
      by_cases h2 : (wayS c b).y = 258
      · rw [readS_end tableV c k hb hw h2] at he
        exact ⟨wayS c b, true, 0, by rw [if_neg (by simp; exact ⟨hy, hb.resolve_left⟩), if_neg (by simp), decide_eq_true h2], hl, Or.inr (Or.inr (Or.inl ⟨rfl, rfl, hst.lngN, he⟩))⟩
      · exact ⟨wayS c b, false, 0, by rw [if_neg (by simp; exact ⟨hy, hb.resolve_left⟩), if_neg (by simp), decide_eq_false h2], hl, Or.inr (Or.inr (Or.inr ⟨rfl, rfl, valid_of hst, hst.tst, hon hb hw h2⟩))⟩
  · rw [readS_arg tableV c k (by omega)] at he
    exact ⟨z0, false, 2, by rw [if_pos (Or.inr (Or.inr hb))], z0_len, Or.inl ⟨rfl, he⟩⟩
theorem cnt0 : Cnt 0 0 z0 := fun e => absurd e (by show ¬ (4 : Int) ≤ 0; decide)
/-- The lengths that are read are lengths. -/
theorem read_lng : ∀ (bs : List Int) {f : Int} {k : Nat} {c : TS}, Rch tableV f k c → Cnt f k c → c.y ≠ 258 → Lng (readS tableV c k bs).1
  | [], f, k, c, _, _, _ => zL_lng
  | b :: bs, f, k, c, hr, hc, hy => by
    by_cases hb : b = 0 ∨ b = 1
    · cases hw : wayB tableV c b with
      | false => rw [readS_bad tableV c k hb hw]; exact zL_lng
      | true =>
        have hy0 := hr.y0
        obtain ⟨r, s⟩ := hr.step hc (by omega) hb hw
        by_cases h2 : (wayS c b).y = 258
        · rw [readS_end tableV c k hb hw h2]; exact r.lngN
        · rw [readS_on tableV c k hb hw h2]; exact read_lng bs r s h2
    · rw [readS_arg tableV c k (by omega)]; exact zL_lng

set_option maxRecDepth 100000 in
set_option maxHeartbeats 1000000 in
theorem any_long (sp : Option Addr) (n cap : Nat) (hn : n ≤ 9223372036854775807) (h : 9000 < n) (w : World) :
    Calls Try.prog 5 #[.slice sp n cap] w fun e w' => e = .returned (.bool true) ∧ Below w.heap.size w w' := by
  have hwk := wakes_call
  have d0 : decide ((9000 : Int) < (n : Int)) = true := decide_eq_true (by omega)
  go_enter Try.func5, Try.ntmps5
  go_wp2_with (with_reducible refine (hwk _).mono ?_; rintro e z ⟨rfl, hb⟩)
  go_ret
  exact ⟨rfl, hb⟩

set_option maxRecDepth 100000 in
set_option maxHeartbeats 4000000 in
theorem any_short (sp : Option Addr) (n cap : Nat) (q : List Int) (hq : q.length = n) (hn : n ≤ 9000) (w : World) (hs : Src w .i64 sp q) :
    Calls Try.prog 5 #[.slice sp n cap] w fun e w' => e = .returned (.bool true) ∧ Below w.heap.size w w' := by
  have hwk := Lib.hid wakes_call
  have hrc := read_call sp n cap q hq (by omega) w hs
  have hLr := read_lng q (Rch.zero (T := tableV) 0) cnt0 (by show (0 : Int) ≠ 258; decide)
  have hok := read_ok (T := tableV) q (Rch.zero 0) cnt0 (by show (0 : Int) ≠ 258; decide)
  have hst := Rdg.start q
  obtain ⟨Lr, nr, er, hrd⟩ : ∃ L m e, readS tableV z0 0 q = (L, m, e) := ⟨_, _, _, rfl⟩
  rw [hrd] at hrc hLr hok
  have HOK := Lib.hid (show er = 0 → RdOk tableV Lr nr from fun e => hok Lr nr (by rw [e]))
  have HRD := Lib.hid hrd
  have HRC := Lib.hid hrc
  have HS := Lib.hid hs
  have HST := Lib.hid hst
  have HLR := Lib.hid hLr
  have HQ := Lib.hid hq
  clear hrc hok hrd hst hs hLr hq
  have hlr : (lg Lr).size = 258 := lg_size HLR.out
  have hzL := lngZ
  have hzT := tstZ
  have d0 : decide ((9000 : Int) < (n : Int)) = false := decide_eq_false (by omega)
  have d0n : decide (9000 < n) = false := decide_eq_false (by omega)
  go_enter Try.func5, Try.ntmps5
  go_upto_region 4 with (first
    | (with_reducible refine HRC.out.mono ?_
       rintro e w2 ⟨rfl, hb2⟩)
    | (refine wpList_store_row rfl 23 _ _ rfl w2.heap.size (lg Lr) rfl rfl 23 (lg zL) (heap_alloc_last w2 _) (lngIk HLR.out) (by rw [lg_size zL_lng, hlr]) (lg_all _) ?_))
  rw [World.setRow_alloc_new]
  try simp only [Act.put]
  clear d0 d0n
  have hby := hb2.alloc (o := .cells (lg Lr) 23) hb2.size
  have h3 := heap_alloc_last w2 (.cells (lg Lr) 23)
  obtain ⟨g3, hg3⟩ : ∃ g3, g3 = w2.heap.size := ⟨_, rfl⟩
  have hg3w : w.heap.size ≤ g3 := by rw [hg3]; exact hb2.size
  rw [← hg3] at h3 ⊢
  clear hg3 hb2
  generalize w2.alloc (.cells (lg Lr) 23) = w3 at h3 hby ⊢
  go_upto_region 5 with fail
  have h6 := heap_alloc_last w3 (.cells (tg z0) 25)
  have h33 := heap_on (below_al w3 (.cells (tg z0) 25)) h3
  have hb6 := hby.alloc (o := .cells (tg z0) 25) hby.size
  obtain ⟨g6, hg6⟩ : ∃ g6, g6 = w3.heap.size := ⟨_, rfl⟩
  have hlt3 : g3 < g6 := by rw [hg6]; exact (Array.getElem?_eq_some_iff.1 h3).1
  rw [← hg6] at h6 ⊢
  have hg6w : w.heap.size ≤ g6 := by omega
  clear hg6 h3 hby
  generalize w3.alloc (.cells (tg z0) 25) = w4 at h6 h33 hb6 ⊢
  go_upto_region 6 with fail
  go_loopw [7] (fun s wr => ∃ (i : Nat) (c : TS), i ≤ n ∧ s = .int .i64 i ∧ Rdg q i c ∧ wr.heap[g6]? = some (.cells (tg c) 25 (0, 0)) ∧ wr.heap[g3]? = some (.cells (lg Lr) 23 (0, 0)) ∧ Below w.heap.size w wr) (fun s _ => n - (intOf s).toNat)
  case atStart => exact ⟨0, z0, by omega, rfl, HST.out, h6, h33, hb6⟩
  case round =>
    obtain ⟨i, c, hi, rfl, hrdg, hx, hl3, hb⟩ := hrel
    clear h6 h33 hb6 HST HRC
    have HRG := Lib.hid hrdg
    have HX := Lib.hid hx
    have HL := Lib.hid hl3
    have HB := Lib.hid hb
    have hz6 : g6 < wr.heap.size := (Array.getElem?_eq_some_iff.1 hx).1
    clear hrdg hx hl3 hb
    by_cases hrun : i < n ∧ i < 600
    · obtain ⟨hlti, h6i⟩ := hrun
      obtain ⟨g, o, rfl, hcb⟩ := HS.out.get (show i < q.length by rw [HQ.out]; exact hlti)
      have HCELL := Lib.hid (show ∀ W : World, Below w.heap.size w W → W.cell? ⟨g, o + i, none⟩ = some (.int .i64 (q.getD i 0)) from fun W hW => by
        obtain ⟨g2, o2, e, h⟩ := (HS.out.below hW).get (show i < q.length by rw [HQ.out]; exact hlti)
        injection e with e
        injection e with e1 e2
        subst e1 e2
        exact h)
      obtain ⟨D, dn, E, hst, hDL, hcase⟩ := HRG.out.tell (by rw [HQ.out]; exact hlti) HRD.out
      have hstep := fun W => step_call c HRG.out.lng (q.getD i 0) W
      rw [hst] at hstep
      have HSTP := Lib.hid hstep
      have HCASE := Lib.hid hcase
      have hcL := HRG.out.lng.lng.1
      generalize q.getD i 0 = x at HCELL HSTP
      clear hst hstep hcase hcb HRG
      have d1 : decide ((i : Int) < (n : Int)) = true := decide_eq_true (by omega)
      have d1n : decide (i < n) = true := decide_eq_true hlti
      have d2 : decide ((i : Int) < 600) = true := decide_eq_true (by omega)
      have d2n : decide (i < 600) = true := decide_eq_true h6i
      go_upto_region 8 with fail
      clear d1 d1n d2 d2n
      go_cut [8, 9, 10] (fun s8 s9 s10 wx => ∃ g8 : Nat, s8 = .pointer (some ⟨g8, 0, none⟩) ∧ s9 = .bool dn ∧ s10 = .int .i64 E ∧ wx.heap[g8]? = some (.cells (tg D) 25 (0, 0)) ∧ g6 < g8 ∧ wx.heap[g6]? = some (.cells (tg c) 25 (0, 0)) ∧ wx.heap[g3]? = some (.cells (lg Lr) 23 (0, 0)) ∧ Below w.heap.size w wx)
      case first =>
        refine wp_region_noPanic ?_
        refine wp_region_held_drew (S := fun W => W.heap[g6]? = some (.cells (tg c) 25 (0, 0)) ∧ W.heap[g3]? = some (.cells (lg Lr) 23 (0, 0)) ∧ Below w.heap.size w W) (by kernel_rfl) ⟨HX.out, HL.out, HB.out.drew⟩ (fun hHeld => ?_)
        refine wpAnyH_take (i := 0) (v := .agg (tg c)) rfl (by kernel_rfl) (by kernel_rfl) (by kernel_rfl) (fun _ _ _ h => h) (yieldsIf_load_mid rfl 25 _ rfl g6 0 rfl (tgl c) _ (fun W hW => tg_whole hW.1) Try.underlying25 rfl (by rw [tgl_len hcL]; exact tstI)) (by assumption) ?_
        try simp only [Act.put, List.getElem_toArray, List.getElem_cons_succ, List.getElem_cons_zero, List.setIfInBounds_toArray, List.set_cons_zero, List.set_cons_succ]
        refine wpAnyH_take (i := 1) (v := ?_) rfl (by kernel_rfl) (by kernel_rfl) (by kernel_rfl) (fun _ _ _ h => h) (Or.inl ⟨by rfl, ?_⟩) (by assumption) ?_
        rotate_left
        · (intro W hSw; go_simp) <;> with_reducible rfl
        try simp only [Act.put, List.getElem_toArray, List.getElem_cons_succ, List.getElem_cons_zero, List.setIfInBounds_toArray, List.set_cons_zero, List.set_cons_succ]
        refine wpAnyH_take (i := 2) (v := ?_) rfl (by kernel_rfl) (by kernel_rfl) (by kernel_rfl) (fun _ _ _ h => h) (Or.inl ⟨by rfl, ?_⟩) (by assumption) ?_
        rotate_left
        · (intro W hSw; go_simp) <;> with_reducible rfl
        try simp only [Act.put, List.getElem_toArray, List.getElem_cons_succ, List.getElem_cons_zero, List.setIfInBounds_toArray, List.set_cons_zero, List.set_cons_succ]
        refine wpAnyH_take (i := 3) (v := ?_) rfl (by kernel_rfl) (by kernel_rfl) (by kernel_rfl) (fun _ _ _ h => h) (Or.inl ⟨by rfl, ?_⟩) (by assumption) ?_
        rotate_left
        · (intro W hSw; have hcW := HCELL.out W hSw.2.2; go_simp) <;> with_reducible rfl
        try simp only [Act.put, List.getElem_toArray, List.getElem_cons_succ, List.getElem_cons_zero, List.setIfInBounds_toArray, List.set_cons_zero, List.set_cons_succ]
        refine wpAnyH_take (i := 4) (v := ?_) rfl (by kernel_rfl) (by kernel_rfl) (by kernel_rfl) (fun _ _ _ h => h) (Or.inl ⟨by rfl, ?_⟩) (by assumption) ?_
        rotate_left
        · (intro W hSw; have hcW := HCELL.out W hSw.2.2; go_simp) <;> with_reducible rfl
        try simp only [Act.put, List.getElem_toArray, List.getElem_cons_succ, List.getElem_cons_zero, List.setIfInBounds_toArray, List.set_cons_zero, List.set_cons_succ]
        refine wpAnyH_ready (rs := [5, 10]) (by kernel_rfl) (by simp) ?_
        refine AllReadyH.cons (o := _) rfl (fun K hK => ?_) (AllReadyH.cons (o := _) rfl (fun K hK => ?_) (AllReadyH.nil))
        · go_simp
          go_at_call 8
          refine (HSTP.out _).mono ?_
          rintro e w5 ⟨rfl, hb5⟩
          have hle5 : wr.heap.size ≤ w5.heap.size := hb5.size
          refine hK.out _ _ ⟨heap_on hb5 hHeld.1, heap_on hb5 hHeld.2.1, hHeld.2.2.trans (hb5.mono hHeld.2.2.size)⟩ (fun hHeldN => ?_)
          clear hK K hHeld
          have hHeld := hHeldN
          clear hHeldN
          try simp only [Act.put, List.getElem_toArray, List.getElem_cons_succ, List.getElem_cons_zero, List.setIfInBounds_toArray, List.set_cons_zero, List.set_cons_succ]
          refine wpAnyH_take (i := 6) (v := ?_) rfl (by kernel_rfl) (by kernel_rfl) (by kernel_rfl) (fun _ _ _ h => h) (Or.inl ⟨by rfl, ?_⟩) (by assumption) ?_
          rotate_left
          · (intro W hSw; go_simp) <;> with_reducible rfl
          try simp only [Act.put, List.getElem_toArray, List.getElem_cons_succ, List.getElem_cons_zero, List.setIfInBounds_toArray, List.set_cons_zero, List.set_cons_succ]
          refine wpAnyH_take (i := 7) (v := ?_) rfl (by kernel_rfl) (by kernel_rfl) (by kernel_rfl) (fun _ _ _ h => h) (Or.inl ⟨by rfl, ?_⟩) (by assumption) ?_
          rotate_left
          · (intro W hSw; go_simp) <;> with_reducible rfl
          try simp only [Act.put, List.getElem_toArray, List.getElem_cons_succ, List.getElem_cons_zero, List.setIfInBounds_toArray, List.set_cons_zero, List.set_cons_succ]
          refine wpAnyH_take (i := 8) (v := ?_) rfl (by kernel_rfl) (by kernel_rfl) (by kernel_rfl) (fun _ _ _ h => h) (Or.inl ⟨by rfl, ?_⟩) (by assumption) ?_
          rotate_left
          · (intro W hSw; go_simp) <;> with_reducible rfl
          try simp only [Act.put, List.getElem_toArray, List.getElem_cons_succ, List.getElem_cons_zero, List.setIfInBounds_toArray, List.set_cons_zero, List.set_cons_succ]
          refine wpAnyH_take (i := 9) (v := ?_) rfl (by kernel_rfl) (by kernel_rfl) (by kernel_rfl) (fun _ _ _ h => h) (Or.inl ⟨by rfl, ?_⟩) (by assumption) ?_
          rotate_left
          · (intro W hSw; go_simp) <;> with_reducible rfl
          try simp only [Act.put, List.getElem_toArray, List.getElem_cons_succ, List.getElem_cons_zero, List.setIfInBounds_toArray, List.set_cons_zero, List.set_cons_succ]
          refine wpAnyH_ready (rs := [10]) (by kernel_rfl) (by simp) ?_
          refine AllReadyH.cons (o := _) rfl (fun K hK => ?_) (AllReadyH.nil)
          go_simp
          have hr7 := heap_alloc_last w5 (.cells (tg z0) 25)
          refine hK.out _ _ ⟨heap_on (below_al w5 _) hHeld.1, heap_on (below_al w5 _) hHeld.2.1, hHeld.2.2.alloc hHeld.2.2.size _⟩ (fun hHeldN => ?_)
          clear K hK hHeld
          have hHeld := hHeldN
          clear hHeldN
          try simp only [Act.put, List.getElem_toArray, List.getElem_cons_succ, List.getElem_cons_zero, List.setIfInBounds_toArray, List.set_cons_zero, List.set_cons_succ]
          refine wpAnyH_ready (rs := [11]) (by kernel_rfl) (by simp) ?_
          refine AllReadyH.cons (o := _) rfl (fun K hK => ?_) (AllReadyH.nil)
          rw [if_pos (by rfl)]
          refine wp_store_row 25 _ _ rfl w5.heap.size (tg D) rfl rfl 25 (tg z0) hr7 (tstIk hDL) (by rw [tg_size z0_len, tg_size hDL]) (tg_all _) ?_
          refine hK.out _ _ ⟨(setRow_other _ _ _ _ (by omega)).trans hHeld.1, (setRow_other _ _ _ _ (by omega)).trans hHeld.2.1, hHeld.2.2.setRow (by omega) _⟩ (fun hHeldN => ?_)
          clear K hK hHeld
          have hHeld := hHeldN
          clear hHeldN
          try simp only [Act.put, List.getElem_toArray, List.getElem_cons_succ, List.getElem_cons_zero, List.setIfInBounds_toArray, List.set_cons_zero, List.set_cons_succ]
          refine wpAnyH_take (i := 12) (v := ?_) rfl (by kernel_rfl) (by kernel_rfl) (by kernel_rfl) (fun _ _ _ h => h) (Or.inl ⟨by rfl, ?_⟩) (by assumption) ?_
          rotate_left
          · (intro W hSw; go_simp) <;> with_reducible rfl
          try simp only [Act.put, List.getElem_toArray, List.getElem_cons_succ, List.getElem_cons_zero, List.setIfInBounds_toArray, List.set_cons_zero, List.set_cons_succ]
          refine wpAnyH_take (i := 13) (v := ?_) rfl (by kernel_rfl) (by kernel_rfl) (by kernel_rfl) (fun _ _ _ h => h) (Or.inl ⟨by rfl, ?_⟩) (by assumption) ?_
          rotate_left
          · (intro W hSw; go_simp) <;> with_reducible rfl
          try simp only [Act.put, List.getElem_toArray, List.getElem_cons_succ, List.getElem_cons_zero, List.setIfInBounds_toArray, List.set_cons_zero, List.set_cons_succ]
          refine wpAnyH_done (by kernel_rfl) ?_ _
          refine NoPanic.normal ?_
          have hrr := setRow_heap _ _ _ (tg D) _ _ hr7
          go_wp2
          go_meet
          exact ⟨w5.heap.size, rfl, rfl, rfl, hrr, by omega, hHeld.1, hHeld.2.1, hHeld.2.2⟩
        · go_simp
          have hr70 := heap_alloc_last wr.drew (.cells (tg z0) 25)
          refine hK.out _ _ ⟨heap_on (below_al wr.drew _) hHeld.1, heap_on (below_al wr.drew _) hHeld.2.1, hHeld.2.2.alloc hHeld.2.2.size _⟩ (fun hHeldN => ?_)
          clear K hK hHeld
          have hHeld := hHeldN
          clear hHeldN
          try simp only [Act.put, List.getElem_toArray, List.getElem_cons_succ, List.getElem_cons_zero, List.setIfInBounds_toArray, List.set_cons_zero, List.set_cons_succ]
          refine wpAnyH_ready (rs := [5]) (by kernel_rfl) (by simp) ?_
          refine AllReadyH.cons (o := _) rfl (fun K hK => ?_) (AllReadyH.nil)
          go_simp
          go_at_call 8
          refine (HSTP.out _).mono ?_
          rintro e w5 ⟨rfl, hb5⟩
          have hr7 := heap_on hb5 hr70
          refine hK.out _ _ ⟨heap_on hb5 hHeld.1, heap_on hb5 hHeld.2.1, hHeld.2.2.trans (hb5.mono hHeld.2.2.size)⟩ (fun hHeldN => ?_)
          clear hK K hHeld hr70
          have hHeld := hHeldN
          clear hHeldN
          try simp only [Act.put, List.getElem_toArray, List.getElem_cons_succ, List.getElem_cons_zero, List.setIfInBounds_toArray, List.set_cons_zero, List.set_cons_succ]
          refine wpAnyH_take (i := 6) (v := ?_) rfl (by kernel_rfl) (by kernel_rfl) (by kernel_rfl) (fun _ _ _ h => h) (Or.inl ⟨by rfl, ?_⟩) (by assumption) ?_
          rotate_left
          · (intro W hSw; go_simp) <;> with_reducible rfl
          try simp only [Act.put, List.getElem_toArray, List.getElem_cons_succ, List.getElem_cons_zero, List.setIfInBounds_toArray, List.set_cons_zero, List.set_cons_succ]
          refine wpAnyH_take (i := 7) (v := ?_) rfl (by kernel_rfl) (by kernel_rfl) (by kernel_rfl) (fun _ _ _ h => h) (Or.inl ⟨by rfl, ?_⟩) (by assumption) ?_
          rotate_left
          · (intro W hSw; go_simp) <;> with_reducible rfl
          try simp only [Act.put, List.getElem_toArray, List.getElem_cons_succ, List.getElem_cons_zero, List.setIfInBounds_toArray, List.set_cons_zero, List.set_cons_succ]
          refine wpAnyH_take (i := 8) (v := ?_) rfl (by kernel_rfl) (by kernel_rfl) (by kernel_rfl) (fun _ _ _ h => h) (Or.inl ⟨by rfl, ?_⟩) (by assumption) ?_
          rotate_left
          · (intro W hSw; go_simp) <;> with_reducible rfl
          try simp only [Act.put, List.getElem_toArray, List.getElem_cons_succ, List.getElem_cons_zero, List.setIfInBounds_toArray, List.set_cons_zero, List.set_cons_succ]
          refine wpAnyH_take (i := 9) (v := ?_) rfl (by kernel_rfl) (by kernel_rfl) (by kernel_rfl) (fun _ _ _ h => h) (Or.inl ⟨by rfl, ?_⟩) (by assumption) ?_
          rotate_left
          · (intro W hSw; go_simp) <;> with_reducible rfl
          try simp only [Act.put, List.getElem_toArray, List.getElem_cons_succ, List.getElem_cons_zero, List.setIfInBounds_toArray, List.set_cons_zero, List.set_cons_succ]
          refine wpAnyH_ready (rs := [11]) (by kernel_rfl) (by simp) ?_
          refine AllReadyH.cons (o := _) rfl (fun K hK => ?_) (AllReadyH.nil)
          rw [if_pos (by rfl)]
          refine wp_store_row 25 _ _ rfl wr.heap.size (tg D) rfl rfl 25 (tg z0) hr7 (tstIk hDL) (by rw [tg_size z0_len, tg_size hDL]) (tg_all _) ?_
          refine hK.out _ _ ⟨(setRow_other _ _ _ _ (by omega)).trans hHeld.1, (setRow_other _ _ _ _ (by omega)).trans hHeld.2.1, hHeld.2.2.setRow (by omega) _⟩ (fun hHeldN => ?_)
          clear K hK hHeld
          have hHeld := hHeldN
          clear hHeldN
          try simp only [Act.put, List.getElem_toArray, List.getElem_cons_succ, List.getElem_cons_zero, List.setIfInBounds_toArray, List.set_cons_zero, List.set_cons_succ]
          refine wpAnyH_take (i := 12) (v := ?_) rfl (by kernel_rfl) (by kernel_rfl) (by kernel_rfl) (fun _ _ _ h => h) (Or.inl ⟨by rfl, ?_⟩) (by assumption) ?_
          rotate_left
          · (intro W hSw; go_simp) <;> with_reducible rfl
          try simp only [Act.put, List.getElem_toArray, List.getElem_cons_succ, List.getElem_cons_zero, List.setIfInBounds_toArray, List.set_cons_zero, List.set_cons_succ]
          refine wpAnyH_take (i := 13) (v := ?_) rfl (by kernel_rfl) (by kernel_rfl) (by kernel_rfl) (fun _ _ _ h => h) (Or.inl ⟨by rfl, ?_⟩) (by assumption) ?_
          rotate_left
          · (intro W hSw; go_simp) <;> with_reducible rfl
          try simp only [Act.put, List.getElem_toArray, List.getElem_cons_succ, List.getElem_cons_zero, List.setIfInBounds_toArray, List.set_cons_zero, List.set_cons_succ]
          refine wpAnyH_done (by kernel_rfl) ?_ _
          refine NoPanic.normal ?_
          have hrr := setRow_heap _ _ _ (tg D) _ _ hr7
          go_wp2
          go_meet
          exact ⟨wr.heap.size, rfl, rfl, rfl, hrr, by omega, hHeld.1, hHeld.2.1, hHeld.2.2⟩
      case rest =>
        obtain ⟨g8, rfl, rfl, rfl, h8, h86, h6, hl, hb⟩ := hcut
        have HB2 := Lib.hid hb
        have H6 := Lib.hid h6
        have HL2 := Lib.hid hl
        clear hb h6 hl HX HL HB HCELL HSTP
        have hkw : IntKind.i64.wrap ((i : Int) + 1) = (i : Int) + 1 := by rw [IntKind.wrap_i64]; omega
        rcases HCASE.out with ⟨rfl, hX⟩ | ⟨rfl, hX⟩ | ⟨rfl, rfl, hLD, hX⟩ | ⟨rfl, rfl, hV, hTD, hR⟩
        · injection hX with hX1 hX2
          injection hX2 with hX2 hX3
          subst hX1 hX2 hX3
          clear HCASE H6
          have hl := HL2.out
          have hb0 := build_l0
          have heq := fun W => run_eqi_lng W zL_lng zL_lng
          rw [decide_eq_true rfl] at heq
          go_wp2_with (first
            | (refine wpList_load_row_g 3 true rfl 48 rfl _ rfl rfl 23 _ rfl g3 rfl 23 (lg zL) (0, 0) _ hl Try.underlying23 rfl lngI ?_)
            | (refine wpList_build_is_g 3 true rfl 48 rfl _ rfl rfl 23 #[] rfl #[] _ build_l0 rfl ?_)
            | (with_reducible refine (hwk.out _).mono ?_
               rintro e z ⟨rfl, hbz⟩))
          go_ret
          exact ⟨rfl, HB2.out.trans (hbz.mono HB2.out.size)⟩
        · injection hX with hX1 hX2
          injection hX2 with hX2 hX3
          subst hX1 hX2 hX3
          clear HCASE H6
          have hl := HL2.out
          have hb0 := build_l0
          have heq := fun W => run_eqi_lng W zL_lng zL_lng
          rw [decide_eq_true rfl] at heq
          go_wp2_with (first
            | (refine wpList_load_row_g 3 true rfl 48 rfl _ rfl rfl 23 _ rfl g3 rfl 23 (lg zL) (0, 0) _ hl Try.underlying23 rfl lngI ?_)
            | (refine wpList_build_is_g 3 true rfl 48 rfl _ rfl rfl 23 #[] rfl #[] _ build_l0 rfl ?_)
            | (with_reducible refine (hwk.out _).mono ?_
               rintro e z ⟨rfl, hbz⟩))
          go_ret
          exact ⟨rfl, HB2.out.trans (hbz.mono HB2.out.size)⟩
        · injection hX with hX1 hX2
          injection hX2 with hX2 hX3
          subst hX1 hX2 hX3
          clear HCASE H6
          have hn1 : ((i + 1 : Nat) : Int) = (i : Int) + 1 := by omega
          rw [hn1]
          have hl := HL2.out
          have heq := fun W => run_eqi_lng W hLD hLD
          rw [decide_eq_true rfl] at heq
          have hrg := tg_range h8 hDL
          go_wp2_with (first
            | (refine wpList_load_row_g 8 true rfl 69 rfl _ rfl rfl 23 _ rfl g3 rfl 23 (lg D.L) (0, 0) _ hl Try.underlying23 rfl (lngIk hLD) ?_)
            | (refine wpList_load_mid_g 8 true rfl 69 rfl _ rfl rfl 23 _ rfl g8 0 rfl (lg D.L).toList _ hrg Try.underlying23 rfl (by rw [Array.length_toList]; exact lngIk hLD) ?_)
            | (with_reducible refine (hwk.out _).mono ?_
               rintro e z ⟨rfl, hbz⟩))
          go_ret
          exact ⟨rfl, HB2.out.trans (hbz.mono HB2.out.size)⟩
        · have HVC := Lib.hid (show ∀ W, Calls Try.prog 13 #[.agg (tg D)] W fun e w' => e = .returned (.bool true) ∧ Below W.heap.size W w' from fun W => by
            have h := valid_call D hTD W
            rw [hV] at h
            exact h)
          have HR := Lib.hid hR
          clear HCASE hR hV
          go_upto_region 7 with (first
            | (refine wpList_load_row rfl 25 _ rfl g8 rfl 25 (tg D) (0, 0) _ h8 Try.underlying25 rfl (tstIk hDL) ?_)
            | (with_reducible refine (HVC.out _).mono ?_
               rintro e z ⟨rfl, hbz⟩
               have h8 := heap_on hbz h8
               have h6z := heap_on hbz H6.out
               have HLz := Lib.hid (heap_on hbz HL2.out)
               have HBz := Lib.hid (HB2.out.trans (hbz.mono HB2.out.size)))
            | (refine wpList_store_row rfl 25 _ _ rfl g6 (tg D) rfl rfl 25 (tg c) h6z (tstIk hDL) (by rw [tg_size hcL, tg_size hDL]) (tg_all _) ?_))
          try simp only [Act.put]
          have HX2 := Lib.hid (setRow_heap _ _ _ (tg D) _ _ h6z)
          have HL3 := Lib.hid ((setRow_other _ _ _ (tg D) (by omega : g3 ≠ g6)).trans HLz.out)
          have HB3 := Lib.hid (HBz.out.setRow (g := g6) hg6w (tg D))
          clear h6z h8 hbz
          go_wp2_with fail
          exact ⟨⟨i + 1, D, by omega, by go_num, HR.out, HX2.out, HL3.out, HB3.out⟩, by simp [intOf]; omega⟩
    · have hend : i = n ∨ 600 ≤ i := by omega
      have d1 : ∃ b, decide ((i : Int) < (n : Int)) = b := ⟨_, rfl⟩
      have hcond : (decide ((i : Int) < (n : Int)) && decide ((i : Int) < 600)) = false := by
        rw [Bool.and_eq_false_iff, decide_eq_false_iff_not, decide_eq_false_iff_not]
        omega
      by_cases he : er = 0
      · obtain ⟨hl258, hsm, htab, hshort, hmost⟩ := HOK.out he
        subst he
        have hoc := fun W => of_call Lr HLR.out W
        have hR0 : ofR Lr = ofV Lr := by unfold ofR; rw [htab]; rfl
        have hE0 : ofE Lr = 0 := by unfold ofE; rw [htab]; rfl
        rw [hR0, hE0] at hoc
        have HOC := Lib.hid hoc
        have hrt := fun W => rtable_call Lr HLR.out W
        rw [htab] at hrt
        have HRT := Lib.hid hrt
        clear hoc hrt hR0 hE0 htab hsm hl258
        generalize (ofV Lr).length = m at HOC hshort
        have d3 : decide ((m : Int) ≤ (nr : Int)) = true := decide_eq_true (by omega)
        have d3n : decide (m ≤ nr) = true := decide_eq_true hshort
        have d4 : decide ((nr : Int) ≤ 8002) = true := decide_eq_true (by omega)
        have d4n : decide (nr ≤ 8002) = true := decide_eq_true hmost
        have hl := HL.out
        by_cases hlt : i < n
        · have d1 : decide ((i : Int) < (n : Int)) = true := decide_eq_true (by omega)
          have d1n : decide (i < n) = true := decide_eq_true hlt
          have d2 : decide ((i : Int) < 600) = false := decide_eq_false (by omega)
          have d2n : decide (i < 600) = false := decide_eq_false (by omega)
          go_wp2_with (first
            | (refine wpList_load_row rfl 23 _ rfl g3 rfl 23 (lg Lr) (0, 0) _ hl Try.underlying23 rfl (lngIk HLR.out) ?_)
            | (with_reducible refine (HOC.out _).mono ?_
               rintro e w5 ⟨A5, c5, rfl, hs5⟩
               have hl5 := heap_on hs5.bel hl
               have HB5 := Lib.hid (HB.out.trans (hs5.bel.mono HB.out.size))
               clear hs5)
            | (refine wpList_load_row_g 12 true rfl 101 rfl _ rfl rfl 23 _ rfl g3 rfl 23 (lg Lr) (0, 0) _ hl5 Try.underlying23 rfl (lngIk HLR.out) ?_)
            | (with_reducible refine (HRT.out _).mono ?_
               rintro e w6 ⟨rfl, hb6⟩
               have HB6 := Lib.hid (HB5.out.trans (hb6.mono HB5.out.size)))
            | (with_reducible refine (hwk.out _).mono ?_
               rintro e z ⟨rfl, hbz⟩))
          go_ret
          exact ⟨rfl, HB6.out.trans (hbz.mono HB6.out.size)⟩
        · have d1 : decide ((i : Int) < (n : Int)) = false := decide_eq_false (by omega)
          have d1n : decide (i < n) = false := decide_eq_false hlt
          go_wp2_with (first
            | (refine wpList_load_row rfl 23 _ rfl g3 rfl 23 (lg Lr) (0, 0) _ hl Try.underlying23 rfl (lngIk HLR.out) ?_)
            | (with_reducible refine (HOC.out _).mono ?_
               rintro e w5 ⟨A5, c5, rfl, hs5⟩
               have hl5 := heap_on hs5.bel hl
               have HB5 := Lib.hid (HB.out.trans (hs5.bel.mono HB.out.size))
               clear hs5)
            | (refine wpList_load_row_g 12 true rfl 101 rfl _ rfl rfl 23 _ rfl g3 rfl 23 (lg Lr) (0, 0) _ hl5 Try.underlying23 rfl (lngIk HLR.out) ?_)
            | (with_reducible refine (HRT.out _).mono ?_
               rintro e w6 ⟨rfl, hb6⟩
               have HB6 := Lib.hid (HB5.out.trans (hb6.mono HB5.out.size)))
            | (with_reducible refine (hwk.out _).mono ?_
               rintro e z ⟨rfl, hbz⟩))
          go_ret
          exact ⟨rfl, HB6.out.trans (hbz.mono HB6.out.size)⟩
      · have he1 : (er == 0) = false := by rw [beq_eq_false_iff_ne]; exact he
        have he2 : decide (er = 0) = false := decide_eq_false he
        by_cases h6 : 600 < n
        · have d5 : decide ((600 : Int) < (n : Int)) = true := decide_eq_true (by omega)
          have d5n : decide (600 < n) = true := decide_eq_true h6
          by_cases hlt : i < n
          · have d1 : decide ((i : Int) < (n : Int)) = true := decide_eq_true (by omega)
            have d1n : decide (i < n) = true := decide_eq_true hlt
            have d2 : decide ((i : Int) < 600) = false := decide_eq_false (by omega)
            have d2n : decide (i < 600) = false := decide_eq_false (by omega)
            go_wp2_with (with_reducible refine (hwk.out _).mono ?_
                         rintro e z ⟨rfl, hbz⟩)
            go_ret
            exact ⟨rfl, HB.out.trans (hbz.mono HB.out.size)⟩
          · have d1 : decide ((i : Int) < (n : Int)) = false := decide_eq_false (by omega)
            have d1n : decide (i < n) = false := decide_eq_false hlt
            go_wp2_with (with_reducible refine (hwk.out _).mono ?_
                         rintro e z ⟨rfl, hbz⟩)
            go_ret
            exact ⟨rfl, HB.out.trans (hbz.mono HB.out.size)⟩
        · obtain rfl : i = n := by omega
          have hX := HRD.out
          rw [HRG.out.2.2, List.drop_of_length_le (by rw [HQ.out]; exact Nat.le_refl _)] at hX
          injection hX with hX1 hX2
          injection hX2 with hX2 hX3
          obtain rfl : er = 50 := hX3.symm
          have d1 : decide ((i : Int) < (i : Int)) = false := decide_eq_false (by omega)
          have d1n : decide (i < i) = false := decide_eq_false (by omega)
          have d5 : decide ((600 : Int) < (i : Int)) = false := decide_eq_false (by omega)
          have d5n : decide (600 < i) = false := decide_eq_false h6
          clear hX1 hX2 hX3 he1 he2
          go_wp2_with (with_reducible refine (hwk.out _).mono ?_
                       rintro e z ⟨rfl, hbz⟩)
          go_ret
          exact ⟨rfl, HB.out.trans (hbz.mono HB.out.size)⟩

theorem any_call (sp : Option Addr) (n cap : Nat) (q : List Int) (w : World) (hr : IsRow .i64 w sp n cap q) :
    Calls Try.prog 5 #[.slice sp n cap] w fun e w' => e = .returned (.bool true) ∧ Below w.heap.size w w' := by
  obtain ⟨hl, hs, hwf, h63, _⟩ := hr.src
  by_cases hn : 9000 < n
  · exact any_long sp n cap h63 hn w
  · exact any_short sp n cap _ hl (by omega) w hs
end Go.Proofs.Ytckopdifjhjppaa
