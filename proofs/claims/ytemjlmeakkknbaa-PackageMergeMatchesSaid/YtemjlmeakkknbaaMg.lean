/- merged. -/
import Derived.Test.YtemjlmeakkknbaaPo
set_option linter.unusedVariables false
set_option linter.unusedSimpArgs false
namespace Go.Proofs.Ytemjlmeakkknbaa
open Go.RowKit Go.Sort

theorem OwnI.drew {w : World} {A : Option Nat} {c : Nat} {l : List (Int × Int)} (h : OwnI w A c l) : OwnI w.drew A c l := h.on (Below.refl _ _).drew
theorem SrcI.drew {w : World} {sp : Option Addr} {l : List (Int × Int)} (h : SrcI w sp l) : SrcI w.drew sp l := h.on (Below.refl _ _).drew
theorem OwnI.app {w : World} {A : Option Nat} {c n m : Nat} {q p : List (Int × Int)} (h : OwnC w 52 2 A c (n + m) (itsC q ++ itsC p)) (hn : n = q.length) (hm : m = p.length) : OwnI w A c (q ++ p) := by
  unfold OwnI
  rw [List.length_append, itsC_append, ← hn, ← hm]
  exact h
/-- While two rows are merged. -/
structure Mg (w : World) (T l p : List (Int × Int)) (sa sb : Option Addr) (ca cb : Nat) (A : Option Nat) (c : Nat) (r : List (Int × Int)) (wr : World) : Prop where
  sa : SrcI w sa l
  sb : SrcI w sb p
  ca : l.length ≤ ca
  cb : p.length ≤ cb
  own : OwnI wr A c r
  new : ∀ g, A = some g → w.heap.size ≤ g
  bel : Below w.heap.size w wr
  eq : r ++ mgR l p = T

theorem Mg.grow {w : World} {T l p : List (Int × Int)} {sa sb : Option Addr} {ca cb : Nat} {A : Option Nat} {c : Nat} {r : List (Int × Int)} {wr w2 : World} (h : Mg w T l p sa sb ca cb A c r wr) (k : Nat) (o : Obj) (h2 : ((wr.drewN k).alloc o).grownBy w2 A) : Below w.heap.size w w2 :=
  (((h.bel.drewN k).alloc (by simpa using h.bel.size) o)).grown h2 (by simpa using Nat.le_succ_of_le h.bel.size) (fun g e => h.new g e)

theorem tail_at {w : World} {g o c : Nat} {a : Int × Int} {l : List (Int × Int)} (h : SrcI w (some ⟨g, o, none⟩) (a :: l)) (hc : (a :: l).length ≤ c) : SrcI w (if c = 1 then some ⟨g, o, none⟩ else some ⟨g, o + 2, none⟩) l := by
  by_cases e : c = 1
  · have : l = [] := List.eq_nil_of_length_eq_zero (by simp at hc; omega)
    subst this
    exact SrcI.nil _ _
  · rw [if_neg e]
    exact h.tail
theorem Mg.fresh {w : World} {T l p : List (Int × Int)} {sa sb : Option Addr} {ca cb : Nat} {A : Option Nat} {c : Nat} {r : List (Int × Int)} {wr : World} (h : Mg w T l p sa sb ca cb A c r wr) {A' : Option Nat} (k : Nat) (o : Obj) (h3 : A' = A ∨ A' = some ((wr.drewN k).alloc o).heap.size) : ∀ g, A' = some g → w.heap.size ≤ g := fun g e => by
  rcases h3 with h3 | h3
  · exact h.new g (h3 ▸ e)
  · rw [h3] at e
    injection e with e
    subst e
    exact Nat.le_trans h.bel.size (by simp)
theorem Mg.left {w : World} {T l p : List (Int × Int)} {a b : Int × Int} {g o : Nat} {sb : Option Addr} {ca cb : Nat} {A A' : Option Nat} {c c' u : Nat} {r : List (Int × Int)} {wr w2 : World} (h : Mg w T (a :: l) (b :: p) (some ⟨g, o, none⟩) sb ca cb A c r wr)
    (hle : a.2 ≤ b.2) (hu : u = r.length) (h1 : OwnC w2 52 2 A' c' (u + 1) (itsC r ++ itsC [a])) (hb : Below w.heap.size w w2) (hn : ∀ g, A' = some g → w.heap.size ≤ g) :
    Mg w T l (b :: p) (if ca = 1 then some ⟨g, o, none⟩ else some ⟨g, o + 2, none⟩) sb (ca - 1) cb A' c' (r ++ [a]) w2 :=
  ⟨tail_at h.sa h.ca, h.sb, by have := h.ca; simp at this; omega, h.cb, OwnI.app h1 hu rfl, hn, hb, by rw [← h.eq, mgR_le _ _ hle, List.append_assoc]; rfl⟩
theorem Mg.right {w : World} {T l p : List (Int × Int)} {a b : Int × Int} {g o : Nat} {sa : Option Addr} {ca cb : Nat} {A A' : Option Nat} {c c' u : Nat} {r : List (Int × Int)} {wr w2 : World} (h : Mg w T (a :: l) (b :: p) sa (some ⟨g, o, none⟩) ca cb A c r wr)
    (hle : ¬ a.2 ≤ b.2) (hu : u = r.length) (h1 : OwnC w2 52 2 A' c' (u + 1) (itsC r ++ itsC [b])) (hb : Below w.heap.size w w2) (hn : ∀ g, A' = some g → w.heap.size ≤ g) :
    Mg w T (a :: l) p sa (if cb = 1 then some ⟨g, o, none⟩ else some ⟨g, o + 2, none⟩) ca (cb - 1) A' c' (r ++ [b]) w2 :=
  ⟨h.sa, tail_at h.sb h.cb, h.ca, by have := h.cb; simp at this; omega, OwnI.app h1 hu rfl, hn, hb, by rw [← h.eq, mgR_gt _ _ hle, List.append_assoc]; rfl⟩

set_option maxRecDepth 100000 in
set_option maxHeartbeats 2000000 in
theorem merged_call (sa sb : Option Addr) (na nb ca cb : Nat) (la lb : List (Int × Int)) (hna : na = la.length) (hnb : nb = lb.length) (ha : na ≤ ca) (hb : nb ≤ cb) (ha6 : na ≤ 500000) (hb6 : nb ≤ 500000) (hcm : ca ≤ maxLen) (hcb : cb ≤ maxLen) (w : World) (hsa : SrcI w sa la) (hsb : SrcI w sb lb) :
    Calls Try.prog 34 #[.slice sa na ca, .slice sb nb cb] w fun e w' => ∃ A c', e = .returned (.slice (ad0 A) (mgR la lb).length c') ∧ NewI w w' A c' (mgR la lb) := by
  have hmk := run_mkItems 0 (na + nb) (Nat.zero_le _) (by omega) .i64 .i64 w
  rw [show (((na + nb : Nat)) : Int) = (na : Int) + nb by omega, show (((0 : Nat)) : Int) = 0 from rfl] at hmk
  have HT : RowKit.Hid ((mgR la lb).length = na + nb) := Lib.hid (by rw [mgR_length, hna, hnb])
  have HM0 : RowKit.Hid (Mg w (mgR la lb) la lb sa sb ca cb (some w.heap.size) (na + nb) [] (w.alloc (.cells (madeCells #[.int .i64 0, .int .u64 0] ((na + nb) * 2)) 52))) :=
    Lib.hid ⟨hsa, hsb, by omega, by omega, OwnI.made w 0 (na + nb) (Nat.zero_le _) (by omega), fun g e => by injection e with e; omega, (Below.refl _ _).alloc (Nat.le_refl _) _, rfl⟩
  generalize mgR la lb = T at HT HM0 ⊢
  have hw : IntKind.i64.wrap ((na : Int) + nb) = (na : Int) + nb := by rw [IntKind.wrap_i64]; omega
  have HNA := Lib.hid hna
  have HNB := Lib.hid hnb
  clear hsa hsb hna hnb
  go_enter Try.func34, Try.ntmps34
  go_wp2_with fail
  unfold maxLen at hcm hcb
  go_loopw [0, 1, 5] (fun s0 s1 s5 wr => ∃ (l p : List (Int × Int)) (sa sb : Option Addr) (ca cb : Nat) (A : Option Nat) (c : Nat) (r : List (Int × Int)) (n m u : Nat), s0 = .slice sa n ca ∧ s1 = .slice sb m cb ∧ s5 = .slice (ad0 A) u c ∧ n = l.length ∧ m = p.length ∧ u = r.length ∧ ca ≤ maxLen ∧ cb ≤ maxLen ∧ Mg w T l p sa sb ca cb A c r wr) (fun s0 s1 _ _ => (match s0 with | .slice _ n _ => n | _ => 0) + (match s1 with | .slice _ n _ => n | _ => 0))
  case atStart => exact ⟨la, lb, sa, sb, ca, cb, some w.heap.size, na + nb, [], na, nb, 0, rfl, rfl, rfl, HNA.out, HNB.out, rfl, hcm, hcb, HM0.out⟩
  case round =>
    clear hmk hw HM0 HNA HNB ha hb hcm hcb
    obtain ⟨l, p, sa, sb, ca, cb, A, c, r, n, m, u, rfl, rfl, rfl, hn, hm, hu, hca, hcb, hmg⟩ := hrel
    have hlen : u + (n + m) = na + nb := by
      have := congrArg List.length hmg.eq
      rw [List.length_append, mgR_length, ← hn, ← hm, ← hu, HT.out] at this
      exact this
    have HM := Lib.hid hmg
    clear hmg
    by_cases h0 : 0 < n
    · by_cases h1 : 0 < m
      · obtain ⟨a, l2, rfl⟩ : ∃ a l2, l = a :: l2 := by
          cases l with
          | nil => simp at hn; omega
          | cons a l2 => exact ⟨a, l2, rfl⟩
        obtain ⟨b, p2, rfl⟩ : ∃ b p2, p = b :: p2 := by
          cases p with
          | nil => simp at hm; omega
          | cons b p2 => exact ⟨b, p2, rfl⟩
        obtain ⟨ga, oa, rfl, -, -⟩ := (HM.out.sa).getD (j := 0) (by simp)
        obtain ⟨gb, ob, rfl, -, -⟩ := (HM.out.sb).getD (j := 0) (by simp)
        obtain ⟨a0, a1⟩ := (HM.out.sa.on HM.out.bel).head
        obtain ⟨b0, b1⟩ := (HM.out.sb.on HM.out.bel).head
        have hc1 : n ≤ ca := by rw [hn]; exact HM.out.ca
        have hc2 : m ≤ cb := by rw [hm]; exact HM.out.cb
        have HU := Lib.hid hu
        have HN := Lib.hid hn
        have HMm := Lib.hid hm
        clear hu hn hm
        obtain ⟨aX, aY⟩ := a
        obtain ⟨bX, bY⟩ := b
        simp only at a0 a1 b0 b1
        have own : OwnC wr 52 2 A c u (itsC r) := by rw [HU.out]; exact HM.out.own
        have HO := Lib.hid own
        clear own
        by_cases hle : aY ≤ bY
        · have hd : decide (aY ≤ bY) = true := decide_eq_true hle
          go_upto_region 3 with fail
          go_quiet (fail)
          go_upto_region 4 with fail
          have hni : (1 : Int) ≤ (n : Int) := by omega
          have hnc : (n : Int) ≤ (ca : Int) := by omega
          go_region_held3 (fun W => W.cell? ⟨ga, oa, none⟩ = some (.int .i64 aX) ∧ W.cell? ⟨ga, oa + 1, none⟩ = some (.int .u64 aY)) (first | go_keep | assumption | exact ⟨by assumption, by assumption⟩) ((
            refine op_appendC rfl _ _ 44 rfl 52 _ 2 16 itmT itmI rfl (by decide) A c u (itsC r) rfl ((HO.out.drewN _).alloc _) (some ⟨_, 0, none⟩) 1 1 rfl (itsC [(aX, aY)]) rfl (CS.lit (heap_alloc_new _ _)) (itsC_cell _) (by unfold maxLen; omega) (by omega) ?_
            intro A' c' w2 h1 h2 h3
            have hbl := Mg.grow HM.out _ _ h2
            have hfr := Mg.fresh HM.out _ _ h3
            obtain ⟨k0, k1⟩ := (HM.out.sa.on hbl).head))
          go_wp2_with fail
          have hM2 := Mg.left HM.out hle HU.out h1 hbl hfr
          refine ⟨⟨l2, _, _, _, ca - 1, cb, A', c', _, n - 1, m, u + 1, rfl, rfl, rfl, by rw [HN.out]; rfl, HMm.out, by rw [List.length_append, ← HU.out]; rfl, by omega, hcb, hM2⟩, ?_⟩
          show n - 1 + m < n + m
          omega
        · have hd : decide (aY ≤ bY) = false := decide_eq_false hle
          go_upto_region 3 with fail
          go_quiet (fail)
          go_upto_region 5 with fail
          have hni : (1 : Int) ≤ (m : Int) := by omega
          have hnc : (m : Int) ≤ (cb : Int) := by omega
          go_region_held3 (fun W => W.cell? ⟨gb, ob, none⟩ = some (.int .i64 bX) ∧ W.cell? ⟨gb, ob + 1, none⟩ = some (.int .u64 bY)) (first | go_keep | assumption | exact ⟨by assumption, by assumption⟩) ((
            refine op_appendC rfl _ _ 44 rfl 52 _ 2 16 itmT itmI rfl (by decide) A c u (itsC r) rfl ((HO.out.drewN _).alloc _) (some ⟨_, 0, none⟩) 1 1 rfl (itsC [(bX, bY)]) rfl (CS.lit (heap_alloc_new _ _)) (itsC_cell _) (by unfold maxLen; omega) (by omega) ?_
            intro A' c' w2 h1 h2 h3
            have hbl := Mg.grow HM.out _ _ h2
            have hfr := Mg.fresh HM.out _ _ h3
            obtain ⟨k0, k1⟩ := (HM.out.sb.on hbl).head))
          go_wp2_with fail
          have hM2 := Mg.right HM.out hle HU.out h1 hbl hfr
          refine ⟨⟨_, p2, _, _, ca, cb - 1, A', c', _, n, m - 1, u + 1, rfl, rfl, rfl, HN.out, by rw [HMm.out]; rfl, by rw [List.length_append, ← HU.out]; rfl, hca, by omega, hM2⟩, ?_⟩
          show n + (m - 1) < n + m
          omega
      · have own : OwnC wr 52 2 A c u (itsC r) := by rw [hu]; exact HM.out.own
        have HL := Lib.hid (show mgR l p = l ++ p from by rw [List.eq_nil_of_length_eq_zero (show p.length = 0 by omega), mgR_nil', List.append_nil])
        have s1 := HM.out.sa.on HM.out.bel
        have HO := Lib.hid own
        have HU := Lib.hid hu
        have HN := Lib.hid hn
        have HMm := Lib.hid hm
        clear own hu hn hm
        go_wp2_with (first
          | (refine wpList_appendC rfl _ _ 44 rfl 52 _ 2 16 itmT itmI rfl (by decide) A c u (itsC r) rfl HO.out sa n ca rfl (itsC l) (by rw [itsC_len, HN.out]) s1 (itsC_cell _) (by unfold maxLen; omega) (by omega) ?_
             intro A' c' w2 h1 h2 h3
             have hb2 : Below w.heap.size w w2 := HM.out.bel.grown h2 HM.out.bel.size (fun g e => HM.out.new g e)
             have s2 := HM.out.sb.on hb2)
          | (refine wpList_appendC rfl _ _ 44 rfl 52 _ 2 16 itmT itmI rfl (by decide) A' c' (u + n) (itsC r ++ itsC l) rfl h1 sb m cb rfl (itsC p) (by rw [itsC_len, HMm.out]) s2 (itsC_cell _) (by unfold maxLen; omega) (by omega) ?_
             intro A2 c2 w3 k1 k2 k3))
        go_ret
        have hn2 : ∀ g, A' = some g → w.heap.size ≤ g := fun g e => by
          rcases h3 with h3 | h3
          · exact HM.out.new g (h3 ▸ e)
          · rw [h3] at e
            injection e with e
            subst e
            exact HM.out.bel.size
        have hn3 : ∀ g, A2 = some g → w.heap.size ≤ g := fun g e => by
          rcases k3 with k3 | k3
          · exact hn2 g (k3 ▸ e)
          · rw [k3] at e
            injection e with e
            subst e
            exact hb2.size
        have eT : T = (r ++ l) ++ p := by rw [← HM.out.eq, HL.out, List.append_assoc]
        have hO : OwnI w3 A2 c2 T := by
          rw [eT]
          refine OwnI.app (n := u + n) ?_ (by rw [List.length_append, HU.out, HN.out]) HMm.out
          rw [itsC_append]
          exact k1
        exact ⟨A2, c2, by rw [HT.out, ← hlen, Nat.add_assoc]; rfl, hO, hn3, hb2.grown k2 hb2.size (fun g e => hn2 g e)⟩
    · have own : OwnC wr 52 2 A c u (itsC r) := by rw [hu]; exact HM.out.own
      have HL := Lib.hid (show mgR l p = l ++ p from by rw [List.eq_nil_of_length_eq_zero (show l.length = 0 by omega), mgR_nil, List.nil_append])
      have s1 := HM.out.sa.on HM.out.bel
      have HO := Lib.hid own
      have HU := Lib.hid hu
      have HN := Lib.hid hn
      have HMm := Lib.hid hm
      clear own hu hn hm
      go_wp2_with (first
        | (refine wpList_appendC rfl _ _ 44 rfl 52 _ 2 16 itmT itmI rfl (by decide) A c u (itsC r) rfl HO.out sa n ca rfl (itsC l) (by rw [itsC_len, HN.out]) s1 (itsC_cell _) (by unfold maxLen; omega) (by omega) ?_
           intro A' c' w2 h1 h2 h3
           have hb2 : Below w.heap.size w w2 := HM.out.bel.grown h2 HM.out.bel.size (fun g e => HM.out.new g e)
           have s2 := HM.out.sb.on hb2)
        | (refine wpList_appendC rfl _ _ 44 rfl 52 _ 2 16 itmT itmI rfl (by decide) A' c' (u + n) (itsC r ++ itsC l) rfl h1 sb m cb rfl (itsC p) (by rw [itsC_len, HMm.out]) s2 (itsC_cell _) (by unfold maxLen; omega) (by omega) ?_
           intro A2 c2 w3 k1 k2 k3))
      go_ret
      have hn2 : ∀ g, A' = some g → w.heap.size ≤ g := fun g e => by
        rcases h3 with h3 | h3
        · exact HM.out.new g (h3 ▸ e)
        · rw [h3] at e
          injection e with e
          subst e
          exact HM.out.bel.size
      have hn3 : ∀ g, A2 = some g → w.heap.size ≤ g := fun g e => by
        rcases k3 with k3 | k3
        · exact hn2 g (k3 ▸ e)
        · rw [k3] at e
          injection e with e
          subst e
          exact hb2.size
      have eT : T = (r ++ l) ++ p := by rw [← HM.out.eq, HL.out, List.append_assoc]
      have hO : OwnI w3 A2 c2 T := by
        rw [eT]
        refine OwnI.app (n := u + n) ?_ (by rw [List.length_append, HU.out, HN.out]) HMm.out
        rw [itsC_append]
        exact k1
      exact ⟨A2, c2, by rw [HT.out, ← hlen, Nat.add_assoc]; rfl, hO, hn3, hb2.grown k2 hb2.size (fun g e => hn2 g e)⟩
end Go.Proofs.Ytemjlmeakkknbaa
