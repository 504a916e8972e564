/- Package varint's reference: Take. -/
import Derived.Test.YtalkmbakglklbaaVarT
set_option linter.unusedVariables false
set_option linter.unusedSimpArgs false
namespace Go.Proofs.Ytalkmbakglklbaa
open Go.RowKit

/-- A byte and a number in progress in memory. -/
def S3 (g ok p : Nat) (x V M : Int) (W : World) : Prop := W.cell? ⟨g, ok, none⟩ = some (.int .u8 x) ∧ W.cell? ⟨p, 0, none⟩ = some (.int .i64 V) ∧ W.cell? ⟨p, 1, none⟩ = some (.int .i64 M)
theorem S3.on {g ok p : Nat} {x V M : Int} {w w' : World} (h : S3 g ok p x V M w) (hb : Below w.heap.size w w') : S3 g ok p x V M w' := ⟨cell_on hb h.1, cell_on hb h.2.1, cell_on hb h.2.2⟩
theorem S3.alloc {g ok p : Nat} {x V M : Int} {w : World} (h : S3 g ok p x V M w) (o : Obj) : S3 g ok p x V M (w.alloc o) := h.on ((Below.refl _ _).alloc (Nat.le_refl _) _)
theorem S3.set {g ok p q i : Nat} {x V M : Int} {w : World} (h : S3 g ok p x V M w) (hg : g < q) (hp : p < q) (v : Value) : S3 g ok p x V M (w.setCell ⟨q, i, none⟩ v) :=
  ⟨(World.cell?_of_block (Below.heap_setCell _ _ _ _ (by show g ≠ q; omega))).trans h.1, (World.cell?_of_block (Below.heap_setCell _ _ _ _ (by show p ≠ q; omega))).trans h.2.1, (World.cell?_of_block (Below.heap_setCell _ _ _ _ (by show p ≠ q; omega))).trans h.2.2⟩
theorem S3.set2 {g ok p q : Nat} {x V M : Int} {w : World} (h : S3 g ok p x V M w) (hg : g < q) (hp : p < q) (a b : Value) : S3 g ok p x V M ((w.setCell ⟨q, 0, none⟩ a).setCell ⟨q, 1, none⟩ b) := (h.set hg hp a).set hg hp b
theorem TwoI.new (w : World) (t : TypeId) (a b : Int) : TwoI (w.alloc (.cells #[.int .i64 a, .int .i64 b] t)) w.heap.size a b := ⟨t, heap_alloc_new w _⟩
theorem TwoI.setO {w : World} {g q i : Nat} {a b : Int} (h : TwoI w g a b) (hq : q ≠ g) (v : Value) : TwoI (w.setCell ⟨q, i, none⟩ v) g a b :=
  h.elim fun t h => ⟨t, (Below.heap_setCell _ _ _ _ (by show g ≠ q; omega)).trans h⟩
theorem wayA {w wr w5 : World} {B p : Nat} {V M V' M' : Int} {t : TypeId} (hp : p < wr.heap.size) (hT : TwoI wr p V M) (hB : Below B w wr) (hBp : B ≤ wr.heap.size) (hb5 : Below wr.drew.heap.size wr.drew w5) :
    wr.heap.size ≤ w5.heap.size ∧ TwoI (w5.alloc (.cells #[.int .i64 V', .int .i64 M'] t)) w5.heap.size V' M' ∧
    TwoI (w5.alloc (.cells #[.int .i64 V', .int .i64 M'] t)) p V M ∧
    Below B w (w5.alloc (.cells #[.int .i64 V', .int .i64 M'] t)) := by
  have hs : wr.heap.size ≤ w5.heap.size := hb5.size
  have h5 : TwoI w5 p V M := TwoI.on (w := wr.drew) hT hb5
  have b5 : Below B w w5 := hB.drew.trans (hb5.mono hBp)
  exact ⟨hs, TwoI.new w5 t V' M', h5.on ((Below.refl _ _).alloc (Nat.le_refl _) _), b5.alloc (by omega) _⟩
theorem wayB {w wr w5 : World} {B p : Nat} {V M V' M' : Int} {t : TypeId} (hp : p < wr.heap.size) (hT : TwoI wr p V M) (hB : Below B w wr) (hBp : B ≤ wr.heap.size) (hb5 : Below (wr.drew.alloc (.cells #[.int .i64 0, .int .i64 0] t)).heap.size (wr.drew.alloc (.cells #[.int .i64 0, .int .i64 0] t)) w5) :
    TwoI ((w5.setCell ⟨wr.heap.size, 0, none⟩ (.int .i64 V')).setCell ⟨wr.heap.size, 1, none⟩ (.int .i64 M')) wr.heap.size V' M' ∧
    TwoI ((w5.setCell ⟨wr.heap.size, 0, none⟩ (.int .i64 V')).setCell ⟨wr.heap.size, 1, none⟩ (.int .i64 M')) p V M ∧
    Below B w ((w5.setCell ⟨wr.heap.size, 0, none⟩ (.int .i64 V')).setCell ⟨wr.heap.size, 1, none⟩ (.int .i64 M')) := by
  have ba : Below wr.drew.heap.size wr.drew (wr.drew.alloc (.cells #[.int .i64 0, .int .i64 0] t)) := (Below.refl _ _).alloc (Nat.le_refl _) _
  have hz : (wr.drew.alloc (.cells #[.int .i64 0, .int .i64 0] t)).heap.size = wr.heap.size + 1 := by simp
  have hs := hb5.size
  have h5 : TwoI w5 p V M := (TwoI.on (w := wr.drew) hT ba).on hb5
  have hn : TwoI w5 wr.heap.size 0 0 := (show TwoI (wr.drew.alloc (.cells #[.int .i64 0, .int .i64 0] t)) wr.heap.size 0 0 from TwoI.new wr.drew _ 0 0).on hb5
  have b5 : Below B w w5 := (hB.drew.trans (ba.mono hBp)).trans (hb5.mono (by omega))
  exact ⟨hn.set V' M', (h5.setO (by omega) _).setO (by omega) _, (b5.setCell (p := ⟨wr.heap.size, 0, none⟩) hBp _).setCell (p := ⟨wr.heap.size, 1, none⟩) hBp _⟩
set_option maxRecDepth 100000 in
set_option maxHeartbeats 1000000 in
theorem rtake_call (w : World) (sp : Option Addr) (n cap : Nat) (l : List Int) (hl : l.length = n) (hs : Src w .u8 sp l) (hby : Byts l) (hn : n ≤ 1000000) (hlc : n ≤ cap) (hcm : cap ≤ maxLen) :
    Calls Try.prog 12 #[.slice sp n cap] w (TakeP w (takeF 0 0 l)) := by
  have HL := Lib.hid hl
  have HS := Lib.hid hs
  have HY := Lib.hid hby
  obtain ⟨R, hR⟩ : ∃ R, R = takeF 0 0 l := ⟨_, rfl⟩
  have HR := Lib.hid hR
  rw [← hR]
  clear hl hs hby hR
  unfold maxLen at hcm
  go_enter Try.func12, Try.ntmps12
  go_wp2_with fail
  have hT : TwoI (w.alloc (.cells #[.int .i64 0, .int .i64 0] 24)) w.heap.size 0 0 := ⟨_, heap_alloc_new w _⟩
  have hB := (Below.refl _ w).alloc (Nat.le_refl _) (.cells #[.int .i64 0, .int .i64 0] 24)
  have hZ : w.heap.size + 1 ≤ (w.alloc (.cells #[.int .i64 0, .int .i64 0] 24)).heap.size := by simp
  go_loopw [6] (fun x wr => ∃ (k : Nat) (V M : Int), k ≤ n ∧ x = .int .i64 k ∧ okV V M ∧ TwoI wr w.heap.size V M ∧ takeF V M (l.drop k) = R ∧ Below w.heap.size w wr ∧ w.heap.size + 1 ≤ wr.heap.size) (fun x _ => n - (intOf x).toNat)
  case atStart => exact ⟨0, 0, 0, Nat.zero_le _, rfl, okV_zero, hT, HR.out.symm, hB, hZ⟩
  case round =>
    obtain ⟨k, V, M, hk, rfl, hok, hT, hR, hbw, hz⟩ := hrel
    have HOK := Lib.hid hok
    have HT := Lib.hid hT
    have HRR := Lib.hid hR
    have HB := Lib.hid hbw
    have HZ := Lib.hid hz
    by_cases hlt : k < n
    · rcases HS.out with rfl | ⟨g, o, rfl, hc⟩
      · have := HL.out
        simp at this
        omega
      have c1 := cell_on hbw (hc k (by rw [HL.out]; exact hlt))
      have hx := HY.out.getD k
      have HTA := Lib.hid (take_at l k (by rw [HL.out]; exact hlt) V M)
      obtain ⟨xi, hxi⟩ : ∃ xi, xi = l.getD k 0 := ⟨_, rfl⟩
      rw [← hxi] at c1 hx HTA
      obtain ⟨x, rfl⟩ := Int.eq_ofNat_of_zero_le hx.1
      have HSV := Lib.hid (step_valid V M x HOK.out (by omega))
      have hcl := fun w => rstep_call V M x (by omega) w
      unfold stepR at hcl
      obtain ⟨V', hV'⟩ : ∃ q, q = stepV V M x := ⟨_, rfl⟩
      obtain ⟨M', hM'⟩ : ∃ q, q = stepM V M x := ⟨_, rfl⟩
      obtain ⟨D, hD⟩ : ∃ q, q = stepD V M x := ⟨_, rfl⟩
      obtain ⟨E, hE⟩ : ∃ q, q = stepE V M x := ⟨_, rfl⟩
      rw [← hV', ← hM', ← hD, ← hE] at HSV HTA
      rw [← hV', ← hM', ← hD, ← hE] at hcl
      have HCL := Lib.hid hcl
      have hS0 : S3 g (o + k) w.heap.size x V M wr.drew := ⟨c1, hT.c0, hT.c1⟩
      have hgB : g < wr.heap.size := World.block_lt_of_cell? _ _ c1
      have hpB : w.heap.size < wr.heap.size := hz
      clear hc hxi hok hT hR hbw hz hcl hV' hM' hD hE
      go_upto_region 5 with fail
      go_cut [7, 8, 9] (fun s7 s8 s9 wx => ∃ q, s7 = .pointer (some ⟨q, 0, none⟩) ∧ s8 = .bool D ∧ s9 = .int .i64 E ∧ w.heap.size + 1 ≤ q ∧ TwoI wx q V' M' ∧ TwoI wx w.heap.size V M ∧ Below w.heap.size w wx)
      case first =>
        go_region_held3 (fun W => W.cell? ⟨g, o + k, none⟩ = some (.int .u8 x) ∧ W.cell? ⟨w.heap.size, 0, none⟩ = some (.int .i64 V) ∧ W.cell? ⟨w.heap.size, 1, none⟩ = some (.int .i64 M)) (first | exact hS0 | exact hS5 | exact S3.alloc hS0 _ | exact S3.alloc hS5 _ | exact S3.set2 hS5 hgB hpB _ _ | exact S3.set2 (S3.alloc hS5 _) (Nat.lt_of_lt_of_le hgB hq5) (Nat.lt_of_lt_of_le hpB hq5) _ _) ((first
          | (go_at_call 14; refine (HCL.out _).mono ?_; rintro e w5 ⟨rfl, hb5⟩; have hS5 := S3.on hS0 hb5; have hq5 : wr.heap.size ≤ w5.heap.size := hb5.size; have HB5 := Lib.hid hb5)
          | (go_at_call 14; refine (HCL.out _).mono ?_; rintro e w5 ⟨rfl, hb5⟩; have hS5 := S3.on (S3.alloc hS0 _) hb5; have HN5 := Lib.hid ((show TwoI (wr.drew.alloc (.cells #[.int .i64 0, .int .i64 0] 24)) wr.heap.size 0 0 from TwoI.new wr.drew _ 0 0).on hb5); have u0 := HN5.out.c0; have u1 := (HN5.out.set0 V').c1; have f0 := HN5.out.f 0; have f1 := (HN5.out.set0 V').f 1; have HB5 := Lib.hid hb5)))
        · obtain ⟨h1, h2, h3, h4⟩ := wayA (V' := V') (M' := M') (t := 24) hpB HT.out HB.out (Nat.le_of_lt hpB) HB5.out
          go_wp2
          go_meet
          exact ⟨_, rfl, rfl, rfl, Nat.le_trans hpB h1, h2, h3, h4⟩
        · obtain ⟨h2, h3, h4⟩ := wayB (V' := V') (M' := M') hpB HT.out HB.out (Nat.le_of_lt hpB) HB5.out
          go_wp2
          go_meet
          exact ⟨_, rfl, rfl, rfl, hpB, h2, h3, h4⟩
      case rest =>
        obtain ⟨q, rfl, rfl, rfl, hq, hTq, hTp, hbc⟩ := hcut
        have HTQ := Lib.hid hTq
        have HTP := Lib.hid hTp
        have HBC := Lib.hid hbc
        have q0 := hTq.c0
        have q1 := hTq.c1
        clear hTq hTp hbc hS0 HT HB HZ hT hB hZ
        by_cases h0 : E = 0
        · subst h0
          cases D
          · have u0 := HTP.out.c0
            have u1 := (HTP.out.set0 V').c1
            have f0 := HTP.out.f 0
            have f1 := (HTP.out.set0 V').f 1
            have hzc : w.heap.size < wc.heap.size := World.block_lt_of_cell? _ _ u0
            go_wp2_with fail
            refine ⟨⟨k + 1, V', M', by omega, by go_num, by have := HSV.out; simpa using this, HTP.out.set V' M', ?_, (HBC.out.setCell (p := ⟨w.heap.size, 0, none⟩) (Nat.le_refl _) _).setCell (p := ⟨w.heap.size, 1, none⟩) (Nat.le_refl _) _, by simp; exact hzc⟩, by simp [intOf]; omega⟩
            rw [← HRR.out, HTA.out]
            simp
          · have hRv : R = (V', l.drop (k + 1), 0) := by rw [← HRR.out, HTA.out]; simp
            have HL2 := Lib.hid (show (l.drop (k + 1)).length = n - (k + 1) by rw [List.length_drop, HL.out])
            subst hRv
            clear HRR HTA HSV HR q0 q1
            have wk : IntKind.i64.wrap ((k : Int) + 1) = ((k + 1 : Nat) : Int) := by rw [IntWalk.i64_in _ (by omega)]; omega
            go_wp2_with fail
            -- REGION
            refine wp_region_inv (J := Js [eqv (.pointer (some ⟨q, 0, none⟩)), eqv (.int .i64 V'), NewP .u8 5 w.heap.size, eqv (.slice (some ⟨g, o, none⟩) n cap), eqv (.int .i64 k), eqv (.int .i64 (k + 1 : Nat)), SrcP .u8 (l.drop (k + 1)) (n - (k + 1)) (cap - (k + 1)), AppP .u8 5 w.heap.size (l.drop (k + 1)), eqv (.int .i64 V'), AppP .u8 5 w.heap.size (l.drop (k + 1)), eqv (.int .i64 0)]) (ds := [30, 31, 32, 33, 34, 35, 36, 37, 2, 3, 4]) (N := 39)
              (B := [(0, .slice (some ⟨g, o, none⟩) n cap), (7, .pointer (some ⟨q, 0, none⟩)), (6, .int .i64 k)]) (by kernel_rfl) (by kernel_rfl) (Js_mono ⟨eqv_mono _, eqv_mono _, NewP_mono _ _ _, eqv_mono _, eqv_mono _, eqv_mono _, SrcP_mono _ _ _ _, AppP_mono _ _ _ _, eqv_mono _, AppP_mono _ _ _ _, eqv_mono _, trivial⟩) rfl rfl (by simp) ?_ ?_
            · refine ⟨?_, ?_, ?_, ?_, ?_, ?_, ?_, ?_, ?_, ?_, ?_, trivial⟩
              · intro a w' hb hdep K hK
                have c7 := hb.at 1 7 _ rfl
                clear hdep
                go_simp
                exact hK _ _ rfl (Below.refl _ _)
              · intro a w' hb hdep K hK
                obtain ⟨v0, e0, j0⟩ := hdep 0 (by kernel_rfl)
                replace e0 : a.tmps[30]? = some v0 := e0
                obtain rfl : v0 = _ := j0
                have q0 := (HTQ.out.on hb.bel).c0
                clear hdep
                go_simp
                exact hK _ _ rfl (Below.refl _ _)
              · intro a w' hb hdep K hK
                clear hdep
                go_simp
                exact hK _ _ ⟨_, rfl, WinS.empty w' _ _, Nat.le_trans HBC.out.size hb.bel.size⟩ ((Below.refl _ _).alloc (Nat.le_refl _) _)
              · intro a w' hb hdep K hK
                have c0 := hb.at 0 0 _ rfl
                clear hdep
                go_simp
                exact hK _ _ rfl (Below.refl _ _)
              · intro a w' hb hdep K hK
                have c6 := hb.at 2 6 _ rfl
                clear hdep
                go_simp
                exact hK _ _ rfl (Below.refl _ _)
              · intro a w' hb hdep K hK
                obtain ⟨v4, e4, j4⟩ := hdep 4 (by kernel_rfl)
                replace e4 : a.tmps[34]? = some v4 := e4
                obtain rfl : v4 = _ := j4
                clear hdep
                go_simp
                exact hK _ _ rfl (Below.refl _ _)
              · intro a w' hb hdep K hK
                obtain ⟨v3, e3, j3⟩ := hdep 3 (by kernel_rfl)
                replace e3 : a.tmps[33]? = some v3 := e3
                obtain rfl : v3 = _ := j3
                obtain ⟨v5, e5, j5⟩ := hdep 5 (by kernel_rfl)
                replace e5 : a.tmps[35]? = some v5 := e5
                obtain rfl : v5 = _ := j5
                have hq2 : 0 ≤ (k : Int) + 1 ∧ (k : Int) + 1 ≤ (n : Int) := by omega
                clear hdep
                go_simp
                exact hK _ _ ⟨_, rfl, (HS.out.below (HBC.out.trans (hb.bel.mono HBC.out.size))).slc (k + 1) cap (by rw [HL.out]; omega) (by rw [HL.out]; exact hlc)⟩ (Below.refl _ _)
              · intro a w' hb hdep K hK
                obtain ⟨v2, e2, j2⟩ := hdep 2 (by kernel_rfl)
                replace e2 : a.tmps[32]? = some v2 := e2
                obtain ⟨v6, e6, j6⟩ := hdep 6 (by kernel_rfl)
                replace e6 : a.tmps[36]? = some v6 := e6
                clear hdep
                obtain ⟨g2, rfl, hw2, hn2⟩ := j2
                obtain ⟨a6, rfl, hs6⟩ := j6
                refine op_append_new rfl _ _ 22 rfl 5 .u8 1 sliceT byteI g2 (by simp [Act.eval, e2]) hw2 a6 (n - (k + 1)) (cap - (k + 1)) (by simp [Act.eval, e6]) (l.drop (k + 1)) HL2.out hs6 (by unfold maxLen; omega) (by omega) ?_
                intro a2 c2 w4 h1 h2 h3
                exact hK _ _ ⟨a2, c2, by rw [HL2.out], h1, fun r hr => by
                  rcases h3 r hr with h3 | h3
                  · rw [h3]
                    exact hn2
                  · exact Nat.le_trans (Nat.le_trans HBC.out.size hb.bel.size) h3⟩ h2
              · intro a w' hb hdep K hK
                obtain ⟨v1, e1, j1⟩ := hdep 1 (by kernel_rfl)
                replace e1 : a.tmps[31]? = some v1 := e1
                obtain rfl : v1 = _ := j1
                clear hdep
                go_simp
                exact hK _ _ rfl (Below.refl _ _)
              · intro a w' hb hdep K hK
                obtain ⟨v7, e7, j7⟩ := hdep 7 (by kernel_rfl)
                replace e7 : a.tmps[37]? = some v7 := e7
                clear hdep
                go_simp
                exact hK _ _ j7 (Below.refl _ _)
              · intro a w' hb hdep K hK
                clear hdep
                go_simp
                exact hK _ _ rfl (Below.refl _ _)
            · intro a w' hb hall
              obtain ⟨v8, h8, j8⟩ := hall 8 (by decide)
              obtain rfl : v8 = _ := j8
              obtain ⟨v9, h9, j9⟩ := hall 9 (by decide)
              obtain ⟨a9, c9, rfl, hw9, hn9⟩ := j9
              obtain ⟨v10, h10, j10⟩ := hall 10 (by decide)
              obtain rfl : v10 = _ := j10
              have HBB := Lib.hid (HBC.out.trans (hb.bel.mono HBC.out.size))
              have hd := hb.defers
              clear hall hb
              go_wp2
              replace h8 : a.tmps[2]? = some (.int .i64 V') := h8
              replace h9 : a.tmps[3]? = some (.slice a9 (l.drop (k + 1)).length c9) := h9
              replace h10 : a.tmps[4]? = some (.int .i64 0) := h10
              exact bodyPost_ret (v := .tuple #[.int .i64 V', .slice a9 (l.drop (k + 1)).length c9, .int .i64 0]) (by simp [results, Try.results12, go_sem, h8, h9, h10]) hd ⟨a9, c9, rfl, hw9, hn9, HBB.out⟩
            -- END REGION
        · have d0 : (E != 0) = true := by simp [h0]
          have hRv : R = (0, [], E) := by rw [← HRR.out, HTA.out, if_neg h0]
          subst hRv
          go_wp2_with fail
          go_ret3
          exact ⟨none, 0, rfl, WinS.nil _ _ _, (fun g e => by injection e), HBC.out⟩
    · obtain rfl : k = n := by omega
      have hRv : R = (0, [], 50) := by
        rw [← HRR.out, List.drop_eq_nil_of_le (by rw [HL.out]; omega)]
        rfl
      subst hRv
      go_wp2_with fail
      go_ret3
      exact ⟨none, 0, rfl, WinS.nil _ _ _, (fun g e => by injection e), HB.out⟩
end Go.Proofs.Ytalkmbakglklbaa
