/- The walk over winepresslaw03.BitReaderOwn. -/
import Derived.Test.YtjbbbojbjholfaaWkR
import Derived.Test.YtjbbbojbjholfaaRf3
import Derived.Deep.DeepCutAuto
set_option linter.unusedVariables false
set_option linter.unusedSimpArgs false
namespace Go.Proofs.Ytjbbbojbjholfaa
open Go.RowKit

theorem RdB.grown {B : Nat} {w w' : World} {p : Nat} {a : Option Addr} {c : Nat} {f : List Int} {u : Nat} {e : Bool} {row : Option Nat} (h : RdB B w p a c f u e) (hg : w.grownBy w' row) (hr : ∀ k, row = some k → ¬ Rp p a k) : RdB B w' p a c f u e :=
  ⟨h.rd.ch (Ch.of_grown (S := fun k => row = some k) hg (fun k e => e)) (fun k hk e => hr k e hk), h.fp, Nat.le_trans h.sz hg.size⟩
theorem RdB.setC {B : Nat} {w : World} {p : Nat} {a : Option Addr} {c : Nat} {f : List Int} {u : Nat} {e : Bool} (h : RdB B w p a c f u e) (x : Addr) (v : Value) (hx : ¬ Rp p a x.block) : RdB B (w.setCell x v) p a c f u e :=
  ⟨h.rd.ch ((Ch.refl (fun k => k = x.block) w).setCell x v (.inl rfl)) (fun k hk e => hx (by rw [← e]; exact hk)), h.fp, Nat.le_trans h.sz (by simp)⟩
theorem feedOneR {w : World} {p : Nat} {a : Option Addr} {c : Nat} {f : List Int} {u : Nat} (h : Rd w p a c f u false) (g : Nat) (d : Chk) (t : TypeId) (hg : w.heap[g]? = some (.cells #[.slice d.a d.len d.cap] t (0, 0))) (hok : OkC w d)
    (hsp : ¬ Rp p a g) (hsd : 0 < d.bs.length → ∀ x, d.a = some x → ¬ Rp p a x.block) (hsm : f.length + d.bs.length ≤ 1000000) (f' : List Int) (hf : f ++ d.bs = f') :
    Calls Try.prog 11 #[.pointer (some ⟨p, 0, none⟩), .slice (some ⟨g, 0, none⟩) 1 1] w fun x w' => x = .returned (.bool true) ∧ NowR w p a f' u false w' := by
  have := feed_yes h (some ⟨g, 0, none⟩) 1 1 [d] rfl (CSrc.one hg) (by simpa using hok) (by omega) (fun _ x e => by injection e with e; subst e; exact hsp) (by simpa using hsd) (by rw [joinC_one]; exact hsm)
  rw [joinC_one, hf] at this
  exact this
/-- A store into a window. -/
theorem WinS.set {w : World} {k : IntKind} {E : TypeId} {g o c : Nat} {l : List Int} (h : WinS w k E (some ⟨g, o, none⟩) c l) (j : Nat) (hj : j < l.length) (x : Int) : WinS (w.setCell ⟨g, o + j, none⟩ (.int k x)) k E (some ⟨g, o, none⟩) c (l.set j x) := by
  rcases h with ⟨h1, _⟩ | ⟨g', o', cur, h1, h2, h3, h4, h5, h6⟩
  · cases h1
  · injection h1 with h1
    injection h1 with e1 e2 _
    subst e1 e2
    refine .inr ⟨g, o, cur.setIfInBounds (o + j) (.int k x), rfl, by simp [World.setCell, Array.getElem?_modify, h2], by simpa using h3, h4, by simpa using h5, fun i hi => ?_⟩
    rw [List.length_set] at hi
    rw [Array.getElem?_setIfInBounds]
    by_cases e : j = i
    · subst e
      rw [if_pos rfl, if_pos (by omega)]
      simp [List.getD_eq_getElem?_getD, hj]
    · rw [if_neg (by omega), h6 i hi]
      simp [List.getD_eq_getElem?_getD, List.getElem?_set, e]
theorem WinS.at {w : World} {k : IntKind} {E : TypeId} {a : Option Addr} {c : Nat} {l : List Int} (h : WinS w k E a c l) (j : Nat) (hj : j < l.length) : ∃ g o, a = some ⟨g, o, none⟩ ∧ w.cell? ⟨g, o + j, none⟩ = some (.int k (l.getD j 0)) ∧ w.frozen? ⟨g, o + j, none⟩ = false := by
  rcases h with ⟨_, rfl, _⟩ | ⟨g', o', cur, h1, h2, h3, h4, h5, h6⟩
  · simp at hj
  · exact ⟨g', o', h1, by simp only [World.cell?, h2]; exact h6 j hj, by simp [World.frozen?, h2]⟩
theorem WinS.empty (w : World) (k : IntKind) (E : TypeId) : WinS (w.alloc (.cells #[] E)) k E (some ⟨w.heap.size, 0, none⟩) 0 [] :=
  .inr ⟨w.heap.size, 0, #[], rfl, heap_alloc_new w _, Nat.le_refl _, by unfold maxLen; omega, by simp, fun j hj => by simp at hj⟩

set_option maxRecDepth 100000 in
set_option maxHeartbeats 1000000 in
theorem owlaw_out (a0 : Option Addr) (n cap0 : Nat) (w : World) (h : 100 < n) (h63 : n ≤ 9223372036854775807) :
    Calls Try.prog 6 #[.slice a0 n cap0] w fun e w' => e = .returned (.bool true) ∧ Below w.heap.size w w' := by
  have d1 : decide ((100 : Int) < (n : Int)) = true := by simp; omega
  go_enter Try.func6, Try.ntmps6
  go_wp2_with fail
  refine (wakes_call w).mono ?_
  rintro e w1 ⟨rfl, hb⟩
  go_wp2
  go_ret
  exact ⟨rfl, hb⟩

set_option maxRecDepth 100000 in
set_option maxHeartbeats 4000000 in
theorem owlaw_in (a0 : Option Addr) (n cap0 : Nat) (w : World) (l : List Int) (hl : l.length = n) (hs : Src w .u8 a0 l) (hby : Byts l) (hn : n ≤ 100) (hlc : n ≤ cap0) (hcm : cap0 ≤ maxLen) :
    Calls Try.prog 6 #[.slice a0 n cap0] w fun e w' => e = .returned (.bool true) ∧ Below w.heap.size w w' := by
  have d1 : decide ((100 : Int) < (n : Int)) = false := by simp; omega
  obtain ⟨B, hB⟩ : ∃ B, B = w.heap.size := ⟨_, rfl⟩
  rw [← hB]
  have hB' := Lib.hid hB
  have HL := Lib.hid hl
  have HS := Lib.hid hs
  have HY := Lib.hid hby
  clear hB hl hs hby
  go_enter Try.func6, Try.ntmps6
  go_wp2_with fail
  refine (newB B w (by rw [hB'.out]; exact Nat.le_refl _)).mono ?_
  rintro e w1 ⟨rfl, hw, hb⟩
  rw [← hB'.out] at hw hb ⊢
  have hB1 : B < w1.heap.size := hw.rd.plt
  have b1 := Lib.hid hb
  have hs1 := Lib.hid (HS.out.below (hB'.out ▸ hb))
  have HW1 := Lib.hid hw
  clear hb hw
  go_wp2_with (at_builtin; go_must (
    refine wpList_appendW rfl _ _ 28 rfl 5 .u8 1 sliceT byteI (some ⟨w1.heap.size, 0, none⟩) 0 [] 0 rfl rfl (WinS.empty w1 .u8 5) a0 n cap0 rfl l HL.out (hs1.out.below ((Below.refl _ w1).alloc (Nat.le_refl _) _)) (by unfold maxLen; omega) (by omega) ?_
    intro a2 c2 w3 hwin hgr halt
    rw [List.nil_append] at hwin
    have h3 : RdB B w3 B none 0 [] 0 false := (HW1.out.alloc (.cells #[] 5)).grown hgr (by intro k e; injection e with e; subst e; exact HW1.out.new (Nat.le_refl _))
    have hA2 : ∀ g, blk a2 = some g → w1.heap.size ≤ g ∧ g < w3.heap.size := fun g e => ⟨by
      rcases halt with h1 | h1 <;> rw [h1] at e <;> injection e with e <;> subst e <;> simp, hwin.lt e⟩
    have b3 := Lib.hid ((b1.out.alloc (Nat.le_of_lt hB1) (.cells #[] 5)).grown hgr (by simp; omega) (by intro k e; injection e with e; subst e; exact Nat.le_of_lt hB1))
    have HWIN := Lib.hid hwin
    have HW3 := Lib.hid h3
    have HA2 := Lib.hid hA2
    have hc2 := HWIN.out.cap
    rw [HL.out] at hc2
    obtain ⟨hnc, hcx⟩ := hc2
    clear hwin hgr halt h3 hA2))
  refine (feedOneR (HW3.out.rd.alloc _) w3.heap.size ⟨a2, n, c2, l⟩ 28 (heap_alloc_new _ _) ⟨HL.out, (HWIN.out.alloc _).src, HY.out, hnc, hcx⟩ (HW3.out.new (Nat.le_refl _)) (fun h0 x e => by
      rintro (h1 | h1)
      · have := HA2.out x.block (by dsimp only at e; rw [e]; rfl)
        omega
      · cases h1) (by have := HL.out; simp; omega) l rfl).mono ?_
  rintro e w4 ⟨rfl, hnow⟩
  obtain ⟨a4, c4, hr4, hC4, hA4⟩ := hnow
  have b4 := Lib.hid ((b3.out.alloc HW3.out.sz (.cells #[.slice a2 n c2] 28)).trans (hC4.below (Nat.le_trans HW3.out.sz (by simp)) (fun k hk => HW3.out.fp k hk)))
  have hw4 : RdB B w4 B a4 c4 l 0 false := ⟨hr4, fun k hk => by
    rcases hk with rfl | hk
    · exact Nat.le_refl _
    · rcases hA4 k hk with h1 | h1
      · cases h1
      · exact Nat.le_trans (Nat.le_trans HW3.out.sz (by simp)) h1, Nat.le_trans (Nat.le_trans HW3.out.sz (by simp)) hC4.size⟩
  have hwin4 : WinS w4 .u8 5 a2 c2 l := (HWIN.out.alloc _).ch hC4 (fun g e => by
    rintro (h1 | h1)
    · have := HA2.out g e
      omega
    · cases h1)
  have hsep : ∀ g, blk a2 = some g → ¬ Rp B a4 g := fun g e => by
    have h2 := HA2.out g e
    rintro (h1 | h1)
    · omega
    · rcases hA4 g h1 with h3 | h3
      · cases h3
      · simp at h3
        omega
  have HW4 := Lib.hid hw4
  have HWIN4 := Lib.hid hwin4
  have HSEP := Lib.hid hsep
  have HGE := Lib.hid (fun g (e : blk a2 = some g) => Nat.le_trans (Nat.le_of_lt hB1) (HA2.out g e).1)
  clear hr4 hC4 hA4 hw4 hwin4 hsep HWIN HW3 HA2 b3 HW1 b1 hs1
  go_wp2_with fail
  go_loopw [5] (fun i wr => ∃ j : Nat, j ≤ n ∧ i = .int .i64 j ∧ ∃ l', l'.length = n ∧ WinS wr .u8 5 a2 c2 l' ∧ RdB B wr B a4 c4 l 0 false ∧ Below B w wr) (fun i _ => n - (intOf i).toNat)
  case atStart => exact ⟨0, Nat.zero_le _, rfl, l, HL.out, HWIN4.out, HW4.out, b4.out⟩
  case round =>
    obtain ⟨j, hj, rfl, l', hl', hwin, hwr, hbr⟩ := hrel
    have HWR := Lib.hid hwr
    have HBR := Lib.hid hbr
    have HLL := Lib.hid hl'
    by_cases hlt : j < n
    · obtain ⟨g, o, rfl, hcl, hfz⟩ := hwin.at j (by rw [hl']; exact hlt)
      have HWIN := Lib.hid hwin
      obtain ⟨y, hy⟩ : ∃ y, y = l'.getD j 0 := ⟨_, rfl⟩
      rw [← hy] at hcl
      clear hwin hwr hbr hl' hy
      go_wp2_with fail
      go_roundw
      case rel => exact ⟨j + 1, by omega, by go_num, l'.set j _, by rw [List.length_set]; exact HLL.out, HWIN.out.set j (by rw [HLL.out]; exact hlt) _, HWR.out.setC _ _ (HSEP.out g rfl), HBR.out.setCell (HGE.out g rfl) _⟩
      case measure => simp [intOf]; omega
    · obtain rfl : j = n := by omega
      clear hwin hwr hbr hl' HLL
      go_wp2_with fail
      go_loopw [6] (fun i wx => ∃ k : Nat, k ≤ j ∧ i = .int .i64 k ∧ NowB B w B l (8 * k) false wx) (fun i _ => j - (intOf i).toNat)
      case atStart => exact ⟨0, Nat.zero_le _, rfl, a4, c4, HWR.out, HBR.out⟩
      case round =>
        obtain ⟨k, hk, rfl, ak, ck, hwk, hbk⟩ := hrel
        have HJ := Lib.hid hwk
        have BJ := Lib.hid hbk
        clear hwk hbk
        by_cases hlt2 : k < j
        · have hkl : k < l.length := by rw [HL.out]; exact hlt2
          have hxb := HY.out _ (List.getElem_mem hkl)
          have hmb := mid_byte l HY.out k hkl
          obtain ⟨x, hx⟩ : ∃ x, x = l[k] := ⟨_, rfl⟩
          rw [← hx] at hxb hmb
          have HM := Lib.hid hmb
          have HX := Lib.hid hx
          obtain ⟨hx0, hx1⟩ := hxb
          clear hmb hx
          go_wp2_with fail
          refine (takeB HJ.out 8 (by omega) (by have := HL.out; omega) x HM.out (8 * (k + 1)) (by omega)).mono ?_
          rintro e w5 ⟨rfl, a5, c5, hw5, hb⟩
          have b5 := BJ.out.trans hb
          have HN := Lib.hid (show NowB B w B l (8 * (k + 1)) false w5 from ⟨a5, c5, hw5, b5⟩)
          have hs5 := HS.out.below (hB'.out ▸ b5)
          rcases hs5 with hnil | ⟨g0, o0, rfl, hc0⟩
          · rw [hnil] at hkl
            simp at hkl
          have hck := hc0 k hkl
          rw [getD_in _ _ hkl, ← HX.out] at hck
          have dx : (x != x) = false := by simp
          clear hw5 hb b5 hc0
          go_wp2_with fail
          go_roundw
          case rel => exact ⟨k + 1, by omega, by go_num, HN.out⟩
          case measure => simp [intOf]; omega
        · obtain rfl : k = j := by omega
          go_wp2_with fail
          refine (leftB HJ.out 0 (by have := HL.out; omega)).mono ?_
          rintro e w5 ⟨rfl, hw5, hb⟩
          have b5 := Lib.hid (BJ.out.trans (hb.mono HJ.out.sz))
          have hsz := hw5.sz
          clear hw5 hb
          go_wp2_with fail
          refine (wakes_call w5).mono ?_
          rintro e w6 ⟨rfl, hb⟩
          go_wp2
          go_ret
          exact ⟨rfl, b5.out.trans (hb.mono hsz)⟩

theorem owlaw_call (a0 : Option Addr) (len0 cap0 : Nat) (z0 : List Int) (w : World) (h0 : IsRow .u8 w a0 len0 cap0 z0) :
    Calls Try.prog 6 #[.slice a0 len0 cap0] w fun e w' => e = .returned (.bool true) ∧ Below w.heap.size w w' := by
  have hcm := h0.capMax
  obtain ⟨hl, hs, hwf, h63, hlc⟩ := h0.src
  by_cases h : 100 < len0
  · exact owlaw_out a0 len0 cap0 w h h63
  · exact owlaw_in a0 len0 cap0 w (z0.take len0) hl hs (Byts.of_wf hwf) (by omega) hlc hcm
end Go.Proofs.Ytjbbbojbjholfaa
