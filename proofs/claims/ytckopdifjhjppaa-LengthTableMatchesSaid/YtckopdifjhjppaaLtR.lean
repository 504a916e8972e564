/- The reference's Read. -/
import Derived.Test.YtckopdifjhjppaaLtB
set_option linter.unusedVariables false
set_option linter.unusedSimpArgs false
namespace Go.Proofs.Ytckopdifjhjppaa
open Go.RowKit

theorem results_cell_tmp2 {P : Program} {fn : Func} {p q r : Tmp} {ty : TypeId} (h : fn.results = #[.cell p ty, .tmp q, .tmp r]) (tmps : Array Value) (w : World) (g : Nat) (t : TypeId) (cs : Array Value) (fr : Nat × Nat) (d : TypeDesc) (v u : Value)
    (hp : tmps.getD p undef = .pointer (some ⟨g, 0, none⟩)) (hq : tmps.getD q undef = v) (hr : tmps.getD r undef = u) (hg : w.heap[g]? = some (.cells cs t fr))
    (hu : P.underlying ty = some d) (hd : (match d with | .struct _ | .array _ _ => true | _ => false) = true) (hi : (P.info? ty).map (·.size) = some cs.size) :
    (results fn tmps).run P w = .ok (.tuple #[.agg cs, v, u]) w := by
  have hp' : tmps[p]?.getD undef = .pointer (some ⟨g, 0, none⟩) := by simpa using hp
  have hq' : tmps[q]?.getD undef = v := by simpa using hq
  have hr' : tmps[r]?.getD undef = u := by simpa using hr
  simp [results, h, hp', hq', hr', asAddr, run_loadVar_row w g t ty cs fr d hg hu hd hi]
theorem Src.get {w : World} {k : IntKind} {sp : Option Addr} {l : List Int} (h : Src w k sp l) {j : Nat} (hj : j < l.length) : ∃ g o, sp = some ⟨g, o, none⟩ ∧ w.cell? ⟨g, o + j, none⟩ = some (.int k (l.getD j 0)) := by
  rcases h with rfl | ⟨g, o, hx, hc⟩
  · simp at hj
  · exact ⟨g, o, hx, hc j hj⟩
/-- What the rest of the reading will return. -/
theorem readS_nil (T : List Int → Bool) (c : TS) (k : Nat) : readS T c k [] = (z0.L, 0, 50) := rfl
theorem readS_arg (T : List Int → Bool) (c : TS) (k : Nat) {b : Int} (h : b ≠ 0 ∧ b ≠ 1) (bs : List Int) : readS T c k (b :: bs) = (z0.L, 0, 2) := by rw [readS, if_pos h]
theorem readS_bad (T : List Int → Bool) (c : TS) (k : Nat) {b : Int} (h : b = 0 ∨ b = 1) (hw : wayB T c b = false) (bs : List Int) : readS T c k (b :: bs) = (z0.L, 0, 100) := by rw [readS, if_neg (by omega), if_pos hw]
theorem readS_end (T : List Int → Bool) (c : TS) (k : Nat) {b : Int} (h : b = 0 ∨ b = 1) (hw : wayB T c b = true) (hy : (wayS c b).y = 258) (bs : List Int) : readS T c k (b :: bs) = ((wayS c b).L, k + 1, 0) := by rw [readS, if_neg (by omega), if_neg (by rw [hw]; decide), if_pos hy]
theorem readS_on (T : List Int → Bool) (c : TS) (k : Nat) {b : Int} (h : b = 0 ∨ b = 1) (hw : wayB T c b = true) (hy : (wayS c b).y ≠ 258) (bs : List Int) : readS T c k (b :: bs) = readS T (wayS c b) (k + 1) bs := by rw [readS, if_neg (by omega), if_neg (by rw [hw]; decide), if_neg hy]
theorem drop_at (q : List Int) (k : Nat) (h : k < q.length) : q.drop k = q.getD k 0 :: q.drop (k + 1) := by
  rw [List.drop_eq_getElem_cons h, List.getD_eq_getElem?_getD, List.getElem?_eq_getElem h]
  rfl
theorem wayS_len (c : TS) (b : Int) : (wayS c b).L.length = c.L.length := by
  unfold wayS
  split
  · split
    · rfl
    · show (c.L.set _ _).length = _
      rw [List.length_set]
  · split
    · rfl
    · split
      · split <;> rfl
      · split <;> rfl
theorem below_al (w : World) (o : Obj) : Below w.heap.size w (w.alloc o) := (Below.refl _ _).alloc (Nat.le_refl _) _
/-- Reading has come to k. -/
def Rdg (q : List Int) (k : Nat) (c : TS) : Prop := c.y ≠ 258 ∧ (∃ f, Rch tableV f k c ∧ Cnt f k c) ∧ readS tableV z0 0 q = readS tableV c k (q.drop k)
theorem Rdg.start (q : List Int) : Rdg q 0 z0 := ⟨by show (0 : Int) ≠ 258; decide, ⟨0, Rch.zero 0, fun e => absurd e (by show ¬ (4 : Int) ≤ 0; decide)⟩, rfl⟩
theorem Rdg.on {q : List Int} {k : Nat} {c : TS} (h : Rdg q k c) (hk : k < q.length) (hb : q.getD k 0 = 0 ∨ q.getD k 0 = 1) (hw : wayB tableV c (q.getD k 0) = true) (hy : (wayS c (q.getD k 0)).y ≠ 258) : Rdg q (k + 1) (wayS c (q.getD k 0)) := by
  obtain ⟨h1, ⟨f, r, s⟩, h3⟩ := h
  have := r.y0
  obtain ⟨r2, s2⟩ := r.step s (by omega) hb hw
  exact ⟨hy, ⟨_, r2, s2⟩, by rw [h3, drop_at q k hk, readS_on tableV c k hb hw hy]⟩

set_option maxRecDepth 100000 in
set_option maxHeartbeats 2000000 in
theorem rread_call (sp : Option Addr) (n cap : Nat) (q : List Int) (hq : q.length = n) (hn : n ≤ 1000000) (w : World) (hs : Src w .i64 sp q) :
    Calls Try.prog 18 #[.slice sp n cap] w fun e w' => e = .returned (.tuple #[.agg (lg (readS tableV z0 0 q).1), .int .i64 (((readS tableV z0 0 q).2.1 : Nat) : Int), .int .i64 (readS tableV z0 0 q).2.2]) ∧ Below w.heap.size w w' := by
  have HRS := Lib.hid (Rdg.start q)
  generalize hX : readS tableV z0 0 q = X at *
  have HX : Unit → readS tableV z0 0 q = X := fun _ => hX
  clear hX
  have hzL := lngZ
  have hzT := tstZ
  have HS := Lib.hid hs
  clear hs
  go_enter Try.func18, Try.ntmps18
  go_upto_region 2 with fail
  have hr := heap_alloc2_old w (.cells (lg zL) 23) (.cells (tg z0) 25)
  have hx := heap_alloc2_new w (.cells (lg zL) 23) (.cells (tg z0) 25)
  have hb : Below w.heap.size w ((w.alloc (.cells (lg zL) 23)).alloc (.cells (tg z0) 25)) := ((Below.refl _ _).alloc (Nat.le_refl _) _).alloc (by simp) _
  generalize (w.alloc (.cells (lg zL) 23)).alloc (.cells (tg z0) 25) = w1 at hr hx hb ⊢
  have HR := Lib.hid hr
  have HXX := Lib.hid hx
  have HB := Lib.hid hb
  clear hr hx hb
  go_upto_region 3 with fail
  go_loopw [6] (fun i wr => ∃ (k : Nat) (c : TS), k ≤ n ∧ i = .int .i64 k ∧ Rdg q k c ∧ wr.heap[w.heap.size]? = some (.cells (lg zL) 23 (0, 0)) ∧ wr.heap[w.heap.size + 1]? = some (.cells (tg c) 25 (0, 0)) ∧ Below w.heap.size w wr) (fun i _ => n - (intOf i).toNat)
  case atStart => exact ⟨0, z0, by omega, rfl, HRS.out, HR.out, HXX.out, HB.out⟩
  case round =>
    obtain ⟨k, c, hk, rfl, hrd, hr, hx, hb⟩ := hrel
    have HRD := Lib.hid hrd
    have HBr := Lib.hid hb
    have HRr := Lib.hid hr
    have HXr := Lib.hid hx
    clear hrd hb hr hx
    by_cases hlt : k < n
    · have hkq : k < q.length := by omega
      obtain ⟨g, o, rfl, hcb⟩ := (HS.out.below HBr.out).get hkq
      have HON := Lib.hid (HRD.out.on hkq)
      obtain ⟨hcy, ⟨f, hrch, hcnt⟩, hre⟩ := HRD.out
      rw [drop_at q k hkq] at hre
      have HRE := Lib.hid hre
      have hcL := hrch.len
      have HRC := Lib.hid hrch
      have HCN := Lib.hid hcnt
      generalize q.getD k 0 = b at hcb HON HRE
      clear hkq hre hrch hcnt HRD
      by_cases hbit : b = 0 ∨ b = 1
      · have hwc := fun W => way_call c f k HRC.out hcy b hbit W
        have hDL : (wayS c b).L.length = 258 := by rw [wayS_len]; exact hcL
        have HBAD := Lib.hid (show wayB tableV c b = false → X = (z0.L, 0, 100) from fun h => by rw [← HX (), HRE.out, readS_bad tableV c k hbit h])
        have HEND := Lib.hid (show wayB tableV c b = true → (wayS c b).y = 258 → X = ((wayS c b).L, k + 1, 0) from fun h h2 => by rw [← HX (), HRE.out, readS_end tableV c k hbit h h2])
        have HGO := Lib.hid (show wayB tableV c b = true → (wayS c b).y ≠ 258 → Rdg q (k + 1) (wayS c b) from HON.out hbit)
        have HLG := Lib.hid (show wayB tableV c b = true → Lng (wayS c b).L from fun h => by
          have := HRC.out.y0
          exact (HRC.out.step HCN.out (by omega) hbit h).1.lngN)
        clear hcy HRE HON HRC HCN
        generalize wayS c b = D at hwc hDL HEND HGO HLG
        generalize wayB tableV c b = ok at hwc HBAD HEND HGO HLG
        have HWC := Lib.hid hwc
        clear hwc
        have hne1 : w.heap.size + 1 < wr.heap.size := (Array.getElem?_eq_some_iff.1 HXr.out).1
        have hne2 : g < wr.heap.size := World.block_lt_of_cell? _ _ hcb
        rcases hbit with rfl | rfl
        · go_upto_region 7 with fail
          go_cut [7, 8] (fun s7 s8 wx => ∃ g7 : Nat, s7 = .pointer (some ⟨g7, 0, none⟩) ∧ s8 = .bool ok ∧ wx.heap[g7]? = some (.cells (tg D) 25 (0, 0)) ∧ wx.heap[w.heap.size]? = some (.cells (lg zL) 23 (0, 0)) ∧ wx.heap[w.heap.size + 1]? = some (.cells (tg c) 25 (0, 0)) ∧ Below w.heap.size w wx)
          case first =>
            refine wp_region_noPanic ?_
            refine wp_region_held_drew (S := fun W => W.heap[w.heap.size]? = some (.cells (lg zL) 23 (0, 0)) ∧ W.heap[w.heap.size + 1]? = some (.cells (tg c) 25 (0, 0)) ∧ W.cell? ⟨g, o + k, none⟩ = some (.int .i64 0) ∧ Below w.heap.size w W) (by kernel_rfl) ⟨HRr.out, HXr.out, hcb, HBr.out.drew⟩ (fun hHeld => ?_)
            refine wpAnyH_take (i := 0) (v := .agg (tgl c).toArray) rfl (by kernel_rfl) (by kernel_rfl) (by kernel_rfl) (fun _ _ _ h => h) (yieldsIf_load_mid rfl 25 _ rfl (w.heap.size + 1) 0 rfl (tgl c) _ (fun W hW => tg_whole hW.2.1) Try.underlying25 rfl (by rw [tgl_len hcL]; exact tstI)) (by assumption) ?_
            try simp only [Act.put, List.getElem_toArray, List.getElem_cons_succ, List.getElem_cons_zero, List.setIfInBounds_toArray, List.set_cons_zero, List.set_cons_succ]
            refine wpAnyH_take (i := 1) (v := ?_) rfl (by kernel_rfl) (by kernel_rfl) (by kernel_rfl) (fun _ _ _ h => h) (Or.inl ⟨by rfl, ?_⟩) (by assumption) ?_
            rotate_left
            · (intro W hSw; go_simp) <;> with_reducible rfl
            try simp only [Act.put, List.getElem_toArray, List.getElem_cons_succ, List.getElem_cons_zero, List.setIfInBounds_toArray, List.set_cons_zero, List.set_cons_succ]
            refine wpAnyH_take (i := 2) (v := ?_) rfl (by kernel_rfl) (by kernel_rfl) (by kernel_rfl) (fun _ _ _ h => h) (Or.inl ⟨by rfl, ?_⟩) (by assumption) ?_
            rotate_left
            · (intro W hSw; go_simp) <;> with_reducible rfl
            try simp only [Act.put, List.getElem_toArray, List.getElem_cons_succ, List.getElem_cons_zero, List.setIfInBounds_toArray, List.set_cons_zero, List.set_cons_succ]
            refine wpAnyH_take (i := 3) (v := ?_) rfl (by kernel_rfl) (by kernel_rfl) (by kernel_rfl) (fun _ _ _ h => h) (Or.inl ⟨by rfl, ?_⟩) (by assumption) ?_
            rotate_left
            · (intro W hSw; go_simp) <;> with_reducible rfl
            try simp only [Act.put, List.getElem_toArray, List.getElem_cons_succ, List.getElem_cons_zero, List.setIfInBounds_toArray, List.set_cons_zero, List.set_cons_succ]
            refine wpAnyH_take (i := 4) (v := ?_) rfl (by kernel_rfl) (by kernel_rfl) (by kernel_rfl) (fun _ _ _ h => h) (Or.inl ⟨by rfl, ?_⟩) (by assumption) ?_
            rotate_left
            · (intro W hSw; have hcW := hSw.2.2.1; go_simp) <;> with_reducible rfl
            try simp only [Act.put, List.getElem_toArray, List.getElem_cons_succ, List.getElem_cons_zero, List.setIfInBounds_toArray, List.set_cons_zero, List.set_cons_succ]
            refine wpAnyH_ready (rs := [5, 9]) (by kernel_rfl) (by simp) ?_
            refine AllReadyH.cons (o := _) rfl (fun K hK => ?_) (AllReadyH.cons (o := _) rfl (fun K hK => ?_) (AllReadyH.nil))
            · go_simp
              go_at_call 27
              refine (HWC.out _).mono ?_
              rintro e w5 ⟨rfl, hb5⟩
              have hle5 : wr.heap.size ≤ w5.heap.size := hb5.size
              refine hK.out _ _ ⟨heap_on hb5 hHeld.1, heap_on hb5 hHeld.2.1, cell_on hb5 hHeld.2.2.1, hHeld.2.2.2.trans (hb5.mono hHeld.2.2.2.size)⟩ (fun hHeldN => ?_)
              clear hK K hHeld
              have hHeld := hHeldN
              clear hHeldN
              try simp only [Act.put, List.getElem_toArray, List.getElem_cons_succ, List.getElem_cons_zero, List.setIfInBounds_toArray, List.set_cons_zero, List.set_cons_succ]
              refine wpAnyH_take (i := 6) (v := ?_) rfl (by kernel_rfl) (by kernel_rfl) (by kernel_rfl) (fun _ _ _ h => h) (Or.inl ⟨by rfl, ?_⟩) (by assumption) ?_
              rotate_left
              · (intro W hSw; go_simp) <;> with_reducible rfl
              try simp only [Act.put, List.getElem_toArray, List.getElem_cons_succ, List.getElem_cons_zero, List.setIfInBounds_toArray, List.set_cons_zero, List.set_cons_succ]
              refine wpAnyH_take (i := 7) (v := ?_) rfl (by kernel_rfl) (by kernel_rfl) (by kernel_rfl) (fun _ _ _ h => h) (Or.inl ⟨by rfl, ?_⟩) (by assumption) ?_
              rotate_left
              · (intro W hSw; go_simp) <;> with_reducible rfl
              try simp only [Act.put, List.getElem_toArray, List.getElem_cons_succ, List.getElem_cons_zero, List.setIfInBounds_toArray, List.set_cons_zero, List.set_cons_succ]
              refine wpAnyH_take (i := 8) (v := ?_) rfl (by kernel_rfl) (by kernel_rfl) (by kernel_rfl) (fun _ _ _ h => h) (Or.inl ⟨by rfl, ?_⟩) (by assumption) ?_
              rotate_left
              · (intro W hSw; go_simp) <;> with_reducible rfl
              try simp only [Act.put, List.getElem_toArray, List.getElem_cons_succ, List.getElem_cons_zero, List.setIfInBounds_toArray, List.set_cons_zero, List.set_cons_succ]
              refine wpAnyH_ready (rs := [9]) (by kernel_rfl) (by simp) ?_
              refine AllReadyH.cons (o := _) rfl (fun K hK => ?_) (AllReadyH.nil)
              go_simp
              have hr7 := heap_alloc_last w5 (.cells (tg z0) 25)
              refine hK.out _ _ ⟨heap_on (below_al w5 _) hHeld.1, heap_on (below_al w5 _) hHeld.2.1, cell_on (below_al w5 _) hHeld.2.2.1, hHeld.2.2.2.alloc hHeld.2.2.2.size _⟩ (fun hHeldN => ?_)
              clear K hK hHeld
              have hHeld := hHeldN
              clear hHeldN
              try simp only [Act.put, List.getElem_toArray, List.getElem_cons_succ, List.getElem_cons_zero, List.setIfInBounds_toArray, List.set_cons_zero, List.set_cons_succ]
              refine wpAnyH_ready (rs := [10]) (by kernel_rfl) (by simp) ?_
              refine AllReadyH.cons (o := _) rfl (fun K hK => ?_) (AllReadyH.nil)
              rw [if_pos (by rfl)]
              refine wp_store_row 25 _ _ rfl w5.heap.size (tg D) rfl rfl 25 (tg z0) hr7 (tstIk hDL) (by rw [tg_size z0_len, tg_size hDL]) (tg_all _) ?_
              refine hK.out _ _ ⟨(setRow_other _ _ _ _ (by omega)).trans hHeld.1, (setRow_other _ _ _ _ (by omega)).trans hHeld.2.1, (World.cell?_of_block (setRow_other _ _ _ _ (by simp only; omega))).trans hHeld.2.2.1, hHeld.2.2.2.setRow (by omega) _⟩ (fun hHeldN => ?_)
              clear K hK hHeld
              have hHeld := hHeldN
              clear hHeldN
              try simp only [Act.put, List.getElem_toArray, List.getElem_cons_succ, List.getElem_cons_zero, List.setIfInBounds_toArray, List.set_cons_zero, List.set_cons_succ]
              refine wpAnyH_take (i := 11) (v := ?_) rfl (by kernel_rfl) (by kernel_rfl) (by kernel_rfl) (fun _ _ _ h => h) (Or.inl ⟨by rfl, ?_⟩) (by assumption) ?_
              rotate_left
              · (intro W hSw; go_simp) <;> with_reducible rfl
              try simp only [Act.put, List.getElem_toArray, List.getElem_cons_succ, List.getElem_cons_zero, List.setIfInBounds_toArray, List.set_cons_zero, List.set_cons_succ]
              refine wpAnyH_done (by kernel_rfl) ?_ _
              refine NoPanic.normal ?_
              have hrr := setRow_heap _ _ _ (tg D) _ _ hr7
              go_wp2
              go_meet
              exact ⟨_, rfl, rfl, hrr, hHeld.1, hHeld.2.1, hHeld.2.2.2⟩
            · go_simp
              have hr70 := heap_alloc_last wr.drew (.cells (tg z0) 25)
              refine hK.out _ _ ⟨heap_on (below_al wr.drew _) hHeld.1, heap_on (below_al wr.drew _) hHeld.2.1, cell_on (below_al wr.drew _) hHeld.2.2.1, hHeld.2.2.2.alloc hHeld.2.2.2.size _⟩ (fun hHeldN => ?_)
              clear K hK hHeld
              have hHeld := hHeldN
              clear hHeldN
              try simp only [Act.put, List.getElem_toArray, List.getElem_cons_succ, List.getElem_cons_zero, List.setIfInBounds_toArray, List.set_cons_zero, List.set_cons_succ]
              refine wpAnyH_ready (rs := [5]) (by kernel_rfl) (by simp) ?_
              refine AllReadyH.cons (o := _) rfl (fun K hK => ?_) (AllReadyH.nil)
              go_simp
              go_at_call 27
              refine (HWC.out _).mono ?_
              rintro e w5 ⟨rfl, hb5⟩
              have hr7 := heap_on hb5 hr70
              refine hK.out _ _ ⟨heap_on hb5 hHeld.1, heap_on hb5 hHeld.2.1, cell_on hb5 hHeld.2.2.1, hHeld.2.2.2.trans (hb5.mono hHeld.2.2.2.size)⟩ (fun hHeldN => ?_)
              clear hK K hHeld hr70
              have hHeld := hHeldN
              clear hHeldN
              try simp only [Act.put, List.getElem_toArray, List.getElem_cons_succ, List.getElem_cons_zero, List.setIfInBounds_toArray, List.set_cons_zero, List.set_cons_succ]
              refine wpAnyH_take (i := 6) (v := ?_) rfl (by kernel_rfl) (by kernel_rfl) (by kernel_rfl) (fun _ _ _ h => h) (Or.inl ⟨by rfl, ?_⟩) (by assumption) ?_
              rotate_left
              · (intro W hSw; go_simp) <;> with_reducible rfl
              try simp only [Act.put, List.getElem_toArray, List.getElem_cons_succ, List.getElem_cons_zero, List.setIfInBounds_toArray, List.set_cons_zero, List.set_cons_succ]
              refine wpAnyH_take (i := 7) (v := ?_) rfl (by kernel_rfl) (by kernel_rfl) (by kernel_rfl) (fun _ _ _ h => h) (Or.inl ⟨by rfl, ?_⟩) (by assumption) ?_
              rotate_left
              · (intro W hSw; go_simp) <;> with_reducible rfl
              try simp only [Act.put, List.getElem_toArray, List.getElem_cons_succ, List.getElem_cons_zero, List.setIfInBounds_toArray, List.set_cons_zero, List.set_cons_succ]
              refine wpAnyH_take (i := 8) (v := ?_) rfl (by kernel_rfl) (by kernel_rfl) (by kernel_rfl) (fun _ _ _ h => h) (Or.inl ⟨by rfl, ?_⟩) (by assumption) ?_
              rotate_left
              · (intro W hSw; go_simp) <;> with_reducible rfl
              try simp only [Act.put, List.getElem_toArray, List.getElem_cons_succ, List.getElem_cons_zero, List.setIfInBounds_toArray, List.set_cons_zero, List.set_cons_succ]
              refine wpAnyH_ready (rs := [10]) (by kernel_rfl) (by simp) ?_
              refine AllReadyH.cons (o := _) rfl (fun K hK => ?_) (AllReadyH.nil)
              rw [if_pos (by rfl)]
              refine wp_store_row 25 _ _ rfl wr.heap.size (tg D) rfl rfl 25 (tg z0) hr7 (tstIk hDL) (by rw [tg_size z0_len, tg_size hDL]) (tg_all _) ?_
              refine hK.out _ _ ⟨(setRow_other _ _ _ _ (by omega)).trans hHeld.1, (setRow_other _ _ _ _ (by omega)).trans hHeld.2.1, (World.cell?_of_block (setRow_other _ _ _ _ (by simp only; omega))).trans hHeld.2.2.1, hHeld.2.2.2.setRow (by omega) _⟩ (fun hHeldN => ?_)
              clear K hK hHeld
              have hHeld := hHeldN
              clear hHeldN
              try simp only [Act.put, List.getElem_toArray, List.getElem_cons_succ, List.getElem_cons_zero, List.setIfInBounds_toArray, List.set_cons_zero, List.set_cons_succ]
              refine wpAnyH_take (i := 11) (v := ?_) rfl (by kernel_rfl) (by kernel_rfl) (by kernel_rfl) (fun _ _ _ h => h) (Or.inl ⟨by rfl, ?_⟩) (by assumption) ?_
              rotate_left
              · (intro W hSw; go_simp) <;> with_reducible rfl
              try simp only [Act.put, List.getElem_toArray, List.getElem_cons_succ, List.getElem_cons_zero, List.setIfInBounds_toArray, List.set_cons_zero, List.set_cons_succ]
              refine wpAnyH_done (by kernel_rfl) ?_ _
              refine NoPanic.normal ?_
              have hrr := setRow_heap _ _ _ (tg D) _ _ hr7
              go_wp2
              go_meet
              exact ⟨_, rfl, rfl, hrr, hHeld.1, hHeld.2.1, hHeld.2.2.2⟩
          case rest =>
            obtain ⟨g7, rfl, rfl, h7, hr2, hx2, hb2⟩ := hcut
            clear hcb hne2 HS HWC HRr HXr HBr
            have hne7 : g7 < wc.heap.size := (Array.getElem?_eq_some_iff.1 h7).1
            have HB2 := Lib.hid hb2
            clear hb2
            cases ok with
            | false =>
              have HXE := Lib.hid (HBAD.out rfl)
              clear HBAD HEND HGO HLG
              have hzs := lg_size zL_lng
              go_wp2_with (refine wpList_store_row rfl 23 _ _ rfl w.heap.size (lg zL) rfl rfl 23 (lg zL) hr2 lngI rfl (lg_all _) ?_)
              refine bodyPost_ret (v := .tuple #[.agg (lg zL), .int .i64 0, .int .i64 100]) ?_ rfl ⟨by rw [HXE.out]; rfl, HB2.out.setRow (Nat.le_refl _) _⟩
              exact results_cell_tmp2 Try.results18 _ _ w.heap.size 23 (lg zL) (0, 0) _ _ _ rfl rfl rfl (setRow_heap _ _ _ _ _ _ hr2) Try.underlying23 rfl lngI
            | true =>
              have HLL := Lib.hid (HLG.out rfl)
              clear HBAD HLG
              go_upto_region 11 with (first
                | (refine wpList_load_row rfl 25 _ rfl g7 rfl 25 (tg D) (0, 0) _ h7 Try.underlying25 rfl (tstIk hDL) ?_)
                | (refine wpList_store_row rfl 25 _ _ rfl (w.heap.size + 1) (tg D) rfl rfl 25 (tg c) hx2 (tstIk hDL) (by rw [tg_size hcL, tg_size hDL]) (tg_all _) ?_))
              have hx3 := setRow_heap wc (w.heap.size + 1) _ (tg D) _ _ hx2
              have hr3 : (wc.setRow (w.heap.size + 1) (tg D)).heap[w.heap.size]? = _ := (setRow_other _ _ _ _ (by omega)).trans hr2
              have HB3 := Lib.hid (HB2.out.setRow (g := w.heap.size + 1) (by omega) (tg D))
              clear hr2 hx2 HB2 h7 hne7
              simp only [Act.put]
              generalize wc.setRow (w.heap.size + 1) (tg D) = w4 at hx3 hr3 HB3 ⊢
              obtain ⟨dy, _, _, _⟩ := tg_cells hx3 hDL
              by_cases hy : D.y = 258
              · have HXE := Lib.hid (HEND.out rfl hy)
                have hyb : (D.y == 258) = true := beq_iff_eq.2 hy
                have hrg := tg_range hx3 hDL
                have hkw : IntKind.i64.wrap ((k : Int) + 1) = (k : Int) + 1 := by rw [IntKind.wrap_i64]; omega
                clear HEND HGO hy
                go_wp2_with (first
                  | (refine wpList_load_mid rfl 23 _ rfl (w.heap.size + 1) 0 rfl (lg D.L).toList _ hrg Try.underlying23 rfl (by rw [Array.length_toList]; exact lngIk HLL.out) ?_)
                  | (refine wpList_store_row rfl 23 _ _ rfl w.heap.size (lg D.L) rfl rfl 23 (lg zL) hr3 (lngIk HLL.out) (by rw [lg_size zL_lng, lg_size HLL.out]) (lg_all _) ?_))
                refine bodyPost_ret (v := .tuple #[.agg (lg D.L), .int .i64 ((k : Int) + 1), .int .i64 0]) ?_ rfl ⟨by rw [HXE.out]; rfl, HB3.out.setRow (Nat.le_refl _) _⟩
                exact results_cell_tmp2 Try.results18 _ _ w.heap.size 23 (lg D.L) (0, 0) _ _ _ rfl rfl rfl (setRow_heap _ _ _ _ _ _ hr3) Try.underlying23 rfl (lngIk HLL.out)
              · have HG2 := Lib.hid (HGO.out rfl hy)
                have hyb : (D.y == 258) = false := beq_eq_false_iff_ne.2 hy
                clear HEND HGO hy
                go_wp2_with fail
                exact ⟨⟨k + 1, D, by omega, by go_num, HG2.out, hr3, hx3, HB3.out⟩, by simp [intOf]; omega⟩
        · go_upto_region 7 with fail
          go_cut [7, 8] (fun s7 s8 wx => ∃ g7 : Nat, s7 = .pointer (some ⟨g7, 0, none⟩) ∧ s8 = .bool ok ∧ wx.heap[g7]? = some (.cells (tg D) 25 (0, 0)) ∧ wx.heap[w.heap.size]? = some (.cells (lg zL) 23 (0, 0)) ∧ wx.heap[w.heap.size + 1]? = some (.cells (tg c) 25 (0, 0)) ∧ Below w.heap.size w wx)
          case first =>
            refine wp_region_noPanic ?_
            refine wp_region_held_drew (S := fun W => W.heap[w.heap.size]? = some (.cells (lg zL) 23 (0, 0)) ∧ W.heap[w.heap.size + 1]? = some (.cells (tg c) 25 (0, 0)) ∧ W.cell? ⟨g, o + k, none⟩ = some (.int .i64 1) ∧ Below w.heap.size w W) (by kernel_rfl) ⟨HRr.out, HXr.out, hcb, HBr.out.drew⟩ (fun hHeld => ?_)
            refine wpAnyH_take (i := 0) (v := .agg (tgl c).toArray) rfl (by kernel_rfl) (by kernel_rfl) (by kernel_rfl) (fun _ _ _ h => h) (yieldsIf_load_mid rfl 25 _ rfl (w.heap.size + 1) 0 rfl (tgl c) _ (fun W hW => tg_whole hW.2.1) Try.underlying25 rfl (by rw [tgl_len hcL]; exact tstI)) (by assumption) ?_
            try simp only [Act.put, List.getElem_toArray, List.getElem_cons_succ, List.getElem_cons_zero, List.setIfInBounds_toArray, List.set_cons_zero, List.set_cons_succ]
            refine wpAnyH_take (i := 1) (v := ?_) rfl (by kernel_rfl) (by kernel_rfl) (by kernel_rfl) (fun _ _ _ h => h) (Or.inl ⟨by rfl, ?_⟩) (by assumption) ?_
            rotate_left
            · (intro W hSw; go_simp) <;> with_reducible rfl
            try simp only [Act.put, List.getElem_toArray, List.getElem_cons_succ, List.getElem_cons_zero, List.setIfInBounds_toArray, List.set_cons_zero, List.set_cons_succ]
            refine wpAnyH_take (i := 2) (v := ?_) rfl (by kernel_rfl) (by kernel_rfl) (by kernel_rfl) (fun _ _ _ h => h) (Or.inl ⟨by rfl, ?_⟩) (by assumption) ?_
            rotate_left
            · (intro W hSw; go_simp) <;> with_reducible rfl
            try simp only [Act.put, List.getElem_toArray, List.getElem_cons_succ, List.getElem_cons_zero, List.setIfInBounds_toArray, List.set_cons_zero, List.set_cons_succ]
            refine wpAnyH_take (i := 3) (v := ?_) rfl (by kernel_rfl) (by kernel_rfl) (by kernel_rfl) (fun _ _ _ h => h) (Or.inl ⟨by rfl, ?_⟩) (by assumption) ?_
            rotate_left
            · (intro W hSw; go_simp) <;> with_reducible rfl
            try simp only [Act.put, List.getElem_toArray, List.getElem_cons_succ, List.getElem_cons_zero, List.setIfInBounds_toArray, List.set_cons_zero, List.set_cons_succ]
            refine wpAnyH_take (i := 4) (v := ?_) rfl (by kernel_rfl) (by kernel_rfl) (by kernel_rfl) (fun _ _ _ h => h) (Or.inl ⟨by rfl, ?_⟩) (by assumption) ?_
            rotate_left
            · (intro W hSw; have hcW := hSw.2.2.1; go_simp) <;> with_reducible rfl
            try simp only [Act.put, List.getElem_toArray, List.getElem_cons_succ, List.getElem_cons_zero, List.setIfInBounds_toArray, List.set_cons_zero, List.set_cons_succ]
            refine wpAnyH_ready (rs := [5, 9]) (by kernel_rfl) (by simp) ?_
            refine AllReadyH.cons (o := _) rfl (fun K hK => ?_) (AllReadyH.cons (o := _) rfl (fun K hK => ?_) (AllReadyH.nil))
            · go_simp
              go_at_call 27
              refine (HWC.out _).mono ?_
              rintro e w5 ⟨rfl, hb5⟩
              have hle5 : wr.heap.size ≤ w5.heap.size := hb5.size
              refine hK.out _ _ ⟨heap_on hb5 hHeld.1, heap_on hb5 hHeld.2.1, cell_on hb5 hHeld.2.2.1, hHeld.2.2.2.trans (hb5.mono hHeld.2.2.2.size)⟩ (fun hHeldN => ?_)
              clear hK K hHeld
              have hHeld := hHeldN
              clear hHeldN
              try simp only [Act.put, List.getElem_toArray, List.getElem_cons_succ, List.getElem_cons_zero, List.setIfInBounds_toArray, List.set_cons_zero, List.set_cons_succ]
              refine wpAnyH_take (i := 6) (v := ?_) rfl (by kernel_rfl) (by kernel_rfl) (by kernel_rfl) (fun _ _ _ h => h) (Or.inl ⟨by rfl, ?_⟩) (by assumption) ?_
              rotate_left
              · (intro W hSw; go_simp) <;> with_reducible rfl
              try simp only [Act.put, List.getElem_toArray, List.getElem_cons_succ, List.getElem_cons_zero, List.setIfInBounds_toArray, List.set_cons_zero, List.set_cons_succ]
              refine wpAnyH_take (i := 7) (v := ?_) rfl (by kernel_rfl) (by kernel_rfl) (by kernel_rfl) (fun _ _ _ h => h) (Or.inl ⟨by rfl, ?_⟩) (by assumption) ?_
              rotate_left
              · (intro W hSw; go_simp) <;> with_reducible rfl
              try simp only [Act.put, List.getElem_toArray, List.getElem_cons_succ, List.getElem_cons_zero, List.setIfInBounds_toArray, List.set_cons_zero, List.set_cons_succ]
              refine wpAnyH_take (i := 8) (v := ?_) rfl (by kernel_rfl) (by kernel_rfl) (by kernel_rfl) (fun _ _ _ h => h) (Or.inl ⟨by rfl, ?_⟩) (by assumption) ?_
              rotate_left
              · (intro W hSw; go_simp) <;> with_reducible rfl
              try simp only [Act.put, List.getElem_toArray, List.getElem_cons_succ, List.getElem_cons_zero, List.setIfInBounds_toArray, List.set_cons_zero, List.set_cons_succ]
              refine wpAnyH_ready (rs := [9]) (by kernel_rfl) (by simp) ?_
              refine AllReadyH.cons (o := _) rfl (fun K hK => ?_) (AllReadyH.nil)
              go_simp
              have hr7 := heap_alloc_last w5 (.cells (tg z0) 25)
              refine hK.out _ _ ⟨heap_on (below_al w5 _) hHeld.1, heap_on (below_al w5 _) hHeld.2.1, cell_on (below_al w5 _) hHeld.2.2.1, hHeld.2.2.2.alloc hHeld.2.2.2.size _⟩ (fun hHeldN => ?_)
              clear K hK hHeld
              have hHeld := hHeldN
              clear hHeldN
              try simp only [Act.put, List.getElem_toArray, List.getElem_cons_succ, List.getElem_cons_zero, List.setIfInBounds_toArray, List.set_cons_zero, List.set_cons_succ]
              refine wpAnyH_ready (rs := [10]) (by kernel_rfl) (by simp) ?_
              refine AllReadyH.cons (o := _) rfl (fun K hK => ?_) (AllReadyH.nil)
              rw [if_pos (by rfl)]
              refine wp_store_row 25 _ _ rfl w5.heap.size (tg D) rfl rfl 25 (tg z0) hr7 (tstIk hDL) (by rw [tg_size z0_len, tg_size hDL]) (tg_all _) ?_
              refine hK.out _ _ ⟨(setRow_other _ _ _ _ (by omega)).trans hHeld.1, (setRow_other _ _ _ _ (by omega)).trans hHeld.2.1, (World.cell?_of_block (setRow_other _ _ _ _ (by simp only; omega))).trans hHeld.2.2.1, hHeld.2.2.2.setRow (by omega) _⟩ (fun hHeldN => ?_)
              clear K hK hHeld
              have hHeld := hHeldN
              clear hHeldN
              try simp only [Act.put, List.getElem_toArray, List.getElem_cons_succ, List.getElem_cons_zero, List.setIfInBounds_toArray, List.set_cons_zero, List.set_cons_succ]
              refine wpAnyH_take (i := 11) (v := ?_) rfl (by kernel_rfl) (by kernel_rfl) (by kernel_rfl) (fun _ _ _ h => h) (Or.inl ⟨by rfl, ?_⟩) (by assumption) ?_
              rotate_left
              · (intro W hSw; go_simp) <;> with_reducible rfl
              try simp only [Act.put, List.getElem_toArray, List.getElem_cons_succ, List.getElem_cons_zero, List.setIfInBounds_toArray, List.set_cons_zero, List.set_cons_succ]
              refine wpAnyH_done (by kernel_rfl) ?_ _
              refine NoPanic.normal ?_
              have hrr := setRow_heap _ _ _ (tg D) _ _ hr7
              go_wp2
              go_meet
              exact ⟨_, rfl, rfl, hrr, hHeld.1, hHeld.2.1, hHeld.2.2.2⟩
            · go_simp
              have hr70 := heap_alloc_last wr.drew (.cells (tg z0) 25)
              refine hK.out _ _ ⟨heap_on (below_al wr.drew _) hHeld.1, heap_on (below_al wr.drew _) hHeld.2.1, cell_on (below_al wr.drew _) hHeld.2.2.1, hHeld.2.2.2.alloc hHeld.2.2.2.size _⟩ (fun hHeldN => ?_)
              clear K hK hHeld
              have hHeld := hHeldN
              clear hHeldN
              try simp only [Act.put, List.getElem_toArray, List.getElem_cons_succ, List.getElem_cons_zero, List.setIfInBounds_toArray, List.set_cons_zero, List.set_cons_succ]
              refine wpAnyH_ready (rs := [5]) (by kernel_rfl) (by simp) ?_
              refine AllReadyH.cons (o := _) rfl (fun K hK => ?_) (AllReadyH.nil)
              go_simp
              go_at_call 27
              refine (HWC.out _).mono ?_
              rintro e w5 ⟨rfl, hb5⟩
              have hr7 := heap_on hb5 hr70
              refine hK.out _ _ ⟨heap_on hb5 hHeld.1, heap_on hb5 hHeld.2.1, cell_on hb5 hHeld.2.2.1, hHeld.2.2.2.trans (hb5.mono hHeld.2.2.2.size)⟩ (fun hHeldN => ?_)
              clear hK K hHeld hr70
              have hHeld := hHeldN
              clear hHeldN
              try simp only [Act.put, List.getElem_toArray, List.getElem_cons_succ, List.getElem_cons_zero, List.setIfInBounds_toArray, List.set_cons_zero, List.set_cons_succ]
              refine wpAnyH_take (i := 6) (v := ?_) rfl (by kernel_rfl) (by kernel_rfl) (by kernel_rfl) (fun _ _ _ h => h) (Or.inl ⟨by rfl, ?_⟩) (by assumption) ?_
              rotate_left
              · (intro W hSw; go_simp) <;> with_reducible rfl
              try simp only [Act.put, List.getElem_toArray, List.getElem_cons_succ, List.getElem_cons_zero, List.setIfInBounds_toArray, List.set_cons_zero, List.set_cons_succ]
              refine wpAnyH_take (i := 7) (v := ?_) rfl (by kernel_rfl) (by kernel_rfl) (by kernel_rfl) (fun _ _ _ h => h) (Or.inl ⟨by rfl, ?_⟩) (by assumption) ?_
              rotate_left
              · (intro W hSw; go_simp) <;> with_reducible rfl
              try simp only [Act.put, List.getElem_toArray, List.getElem_cons_succ, List.getElem_cons_zero, List.setIfInBounds_toArray, List.set_cons_zero, List.set_cons_succ]
              refine wpAnyH_take (i := 8) (v := ?_) rfl (by kernel_rfl) (by kernel_rfl) (by kernel_rfl) (fun _ _ _ h => h) (Or.inl ⟨by rfl, ?_⟩) (by assumption) ?_
              rotate_left
              · (intro W hSw; go_simp) <;> with_reducible rfl
              try simp only [Act.put, List.getElem_toArray, List.getElem_cons_succ, List.getElem_cons_zero, List.setIfInBounds_toArray, List.set_cons_zero, List.set_cons_succ]
              refine wpAnyH_ready (rs := [10]) (by kernel_rfl) (by simp) ?_
              refine AllReadyH.cons (o := _) rfl (fun K hK => ?_) (AllReadyH.nil)
              rw [if_pos (by rfl)]
              refine wp_store_row 25 _ _ rfl wr.heap.size (tg D) rfl rfl 25 (tg z0) hr7 (tstIk hDL) (by rw [tg_size z0_len, tg_size hDL]) (tg_all _) ?_
              refine hK.out _ _ ⟨(setRow_other _ _ _ _ (by omega)).trans hHeld.1, (setRow_other _ _ _ _ (by omega)).trans hHeld.2.1, (World.cell?_of_block (setRow_other _ _ _ _ (by simp only; omega))).trans hHeld.2.2.1, hHeld.2.2.2.setRow (by omega) _⟩ (fun hHeldN => ?_)
              clear K hK hHeld
              have hHeld := hHeldN
              clear hHeldN
              try simp only [Act.put, List.getElem_toArray, List.getElem_cons_succ, List.getElem_cons_zero, List.setIfInBounds_toArray, List.set_cons_zero, List.set_cons_succ]
              refine wpAnyH_take (i := 11) (v := ?_) rfl (by kernel_rfl) (by kernel_rfl) (by kernel_rfl) (fun _ _ _ h => h) (Or.inl ⟨by rfl, ?_⟩) (by assumption) ?_
              rotate_left
              · (intro W hSw; go_simp) <;> with_reducible rfl
              try simp only [Act.put, List.getElem_toArray, List.getElem_cons_succ, List.getElem_cons_zero, List.setIfInBounds_toArray, List.set_cons_zero, List.set_cons_succ]
              refine wpAnyH_done (by kernel_rfl) ?_ _
              refine NoPanic.normal ?_
              have hrr := setRow_heap _ _ _ (tg D) _ _ hr7
              go_wp2
              go_meet
              exact ⟨_, rfl, rfl, hrr, hHeld.1, hHeld.2.1, hHeld.2.2.2⟩
          case rest =>
            obtain ⟨g7, rfl, rfl, h7, hr2, hx2, hb2⟩ := hcut
            clear hcb hne2 HS HWC HRr HXr HBr
            have hne7 : g7 < wc.heap.size := (Array.getElem?_eq_some_iff.1 h7).1
            have HB2 := Lib.hid hb2
            clear hb2
            cases ok with
            | false =>
              have HXE := Lib.hid (HBAD.out rfl)
              clear HBAD HEND HGO HLG
              have hzs := lg_size zL_lng
              go_wp2_with (refine wpList_store_row rfl 23 _ _ rfl w.heap.size (lg zL) rfl rfl 23 (lg zL) hr2 lngI rfl (lg_all _) ?_)
              refine bodyPost_ret (v := .tuple #[.agg (lg zL), .int .i64 0, .int .i64 100]) ?_ rfl ⟨by rw [HXE.out]; rfl, HB2.out.setRow (Nat.le_refl _) _⟩
              exact results_cell_tmp2 Try.results18 _ _ w.heap.size 23 (lg zL) (0, 0) _ _ _ rfl rfl rfl (setRow_heap _ _ _ _ _ _ hr2) Try.underlying23 rfl lngI
            | true =>
              have HLL := Lib.hid (HLG.out rfl)
              clear HBAD HLG
              go_upto_region 11 with (first
                | (refine wpList_load_row rfl 25 _ rfl g7 rfl 25 (tg D) (0, 0) _ h7 Try.underlying25 rfl (tstIk hDL) ?_)
                | (refine wpList_store_row rfl 25 _ _ rfl (w.heap.size + 1) (tg D) rfl rfl 25 (tg c) hx2 (tstIk hDL) (by rw [tg_size hcL, tg_size hDL]) (tg_all _) ?_))
              have hx3 := setRow_heap wc (w.heap.size + 1) _ (tg D) _ _ hx2
              have hr3 : (wc.setRow (w.heap.size + 1) (tg D)).heap[w.heap.size]? = _ := (setRow_other _ _ _ _ (by omega)).trans hr2
              have HB3 := Lib.hid (HB2.out.setRow (g := w.heap.size + 1) (by omega) (tg D))
              clear hr2 hx2 HB2 h7 hne7
              simp only [Act.put]
              generalize wc.setRow (w.heap.size + 1) (tg D) = w4 at hx3 hr3 HB3 ⊢
              obtain ⟨dy, _, _, _⟩ := tg_cells hx3 hDL
              by_cases hy : D.y = 258
              · have HXE := Lib.hid (HEND.out rfl hy)
                have hyb : (D.y == 258) = true := beq_iff_eq.2 hy
                have hrg := tg_range hx3 hDL
                have hkw : IntKind.i64.wrap ((k : Int) + 1) = (k : Int) + 1 := by rw [IntKind.wrap_i64]; omega
                clear HEND HGO hy
                go_wp2_with (first
                  | (refine wpList_load_mid rfl 23 _ rfl (w.heap.size + 1) 0 rfl (lg D.L).toList _ hrg Try.underlying23 rfl (by rw [Array.length_toList]; exact lngIk HLL.out) ?_)
                  | (refine wpList_store_row rfl 23 _ _ rfl w.heap.size (lg D.L) rfl rfl 23 (lg zL) hr3 (lngIk HLL.out) (by rw [lg_size zL_lng, lg_size HLL.out]) (lg_all _) ?_))
                refine bodyPost_ret (v := .tuple #[.agg (lg D.L), .int .i64 ((k : Int) + 1), .int .i64 0]) ?_ rfl ⟨by rw [HXE.out]; rfl, HB3.out.setRow (Nat.le_refl _) _⟩
                exact results_cell_tmp2 Try.results18 _ _ w.heap.size 23 (lg D.L) (0, 0) _ _ _ rfl rfl rfl (setRow_heap _ _ _ _ _ _ hr3) Try.underlying23 rfl (lngIk HLL.out)
              · have HG2 := Lib.hid (HGO.out rfl hy)
                have hyb : (D.y == 258) = false := beq_eq_false_iff_ne.2 hy
                clear HEND HGO hy
                go_wp2_with fail
                exact ⟨⟨k + 1, D, by omega, by go_num, HG2.out, hr3, hx3, HB3.out⟩, by simp [intOf]; omega⟩
      · have HXE := Lib.hid (show X = (z0.L, 0, 2) by rw [← HX (), HRE.out, readS_arg tableV c k (by omega)])
        have hb0 : (b != 0) = true := by simp; omega
        have hb1 : (b != 1) = true := by simp; omega
        have hr2 := HRr.out
        have hzs := lg_size zL_lng
        clear HRE HON hbit
        go_wp2_with (refine wpList_store_row rfl 23 _ _ rfl w.heap.size (lg zL) rfl rfl 23 (lg zL) hr2 lngI rfl (lg_all _) ?_)
        refine bodyPost_ret (v := .tuple #[.agg (lg zL), .int .i64 0, .int .i64 2]) ?_ rfl ⟨by rw [HXE.out]; rfl, HBr.out.setRow (Nat.le_refl _) _⟩
        exact results_cell_tmp2 Try.results18 _ _ w.heap.size 23 (lg zL) (0, 0) _ _ _ rfl rfl rfl (setRow_heap _ _ _ _ _ _ hr2) Try.underlying23 rfl lngI
    · have HXE := Lib.hid (show X = (z0.L, 0, 50) by
        have h := HRD.out.2.2
        rw [List.drop_of_length_le (by omega), readS_nil, HX ()] at h
        exact h)
      have hr2 := HRr.out
      have hzs := lg_size zL_lng
      obtain rfl : k = n := by omega
      clear HRD
      go_wp2_with (refine wpList_store_row rfl 23 _ _ rfl w.heap.size (lg zL) rfl rfl 23 (lg zL) hr2 lngI rfl (lg_all _) ?_)
      refine bodyPost_ret (v := .tuple #[.agg (lg zL), .int .i64 0, .int .i64 50]) ?_ rfl ⟨by rw [HXE.out]; rfl, HBr.out.setRow (Nat.le_refl _) _⟩
      exact results_cell_tmp2 Try.results18 _ _ w.heap.size 23 (lg zL) (0, 0) _ _ _ rfl rfl rfl (setRow_heap _ _ _ _ _ _ hr2) Try.underlying23 rfl lngI
end Go.Proofs.Ytckopdifjhjppaa
