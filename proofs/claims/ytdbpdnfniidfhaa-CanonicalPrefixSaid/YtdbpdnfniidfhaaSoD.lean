/- Package sort: order2, median, medianAdjacent, choosePivot. -/
import Derived.Test.YtdbpdnfniidfhaaSo
set_option linter.unusedVariables false
set_option linter.unusedSimpArgs false
namespace Go.Proofs.Ytdbpdnfniidfhaa
open Go.RowKit Go.Sort
section
variable {α : Type} [Inhabited α] {lt : α → α → Bool} {g : Nat} {lb : Array Value} {sf : Nat} {sb : Array Value} {blk n : Nat} {I : Array α → World → Prop}

/-- The number of swaps in a box of its own, which is newer than the world w0. -/
structure Sp (w0 : World) (p k : Nat) (w : World) : Prop where
  sm : Sm w0 w
  le : w0.heap.size ≤ p
  box : ∃ t, w.heap[p]? = some (.cells #[.int .i64 k] t (0, 0))
theorem Sp.cell {w0 w : World} {p k : Nat} (h : Sp w0 p k w) : w.cell? ⟨p, 0, none⟩ = some (.int .i64 k) := by
  obtain ⟨t, h⟩ := h.box
  simp [World.cell?, h]
theorem Sp.f {w0 w : World} {p k : Nat} (h : Sp w0 p k w) : w.frozen? ⟨p, 0, none⟩ = false := by
  obtain ⟨t, h⟩ := h.box
  simp [World.frozen?, h]
theorem Sp.plt {w0 w : World} {p k : Nat} (h : Sp w0 p k w) : p < w.heap.size := by
  obtain ⟨t, h⟩ := h.box
  exact (Array.getElem?_eq_some_iff.1 h).1
theorem Sp.on {w0 w w' : World} {p k : Nat} (h : Sp w0 p k w) (s : Sm w w') : Sp w0 p k w' := ⟨h.sm.trans s, h.le, h.box.elim fun t e => ⟨t, s.heap e (fun x => x)⟩⟩
theorem Sp.set {w0 w : World} {p k : Nat} (h : Sp w0 p k w) (v : Int) (m : Nat) (hv : v = m) : Sp w0 p m (w.setCell ⟨p, 0, none⟩ (.int .i64 v)) := by
  subst hv
  refine ⟨h.sm.setCell _ _ (.inr h.le), h.le, ?_⟩
  obtain ⟨t, h⟩ := h.box
  exact ⟨t, by simp [World.setCell, Array.getElem?_modify, h]⟩
theorem o2_lt {d : Array α} {a b k m : Nat} (ha : a < m) (hb : b < m) : (order2 lt d a b k).1 < m ∧ (order2 lt d a b k).2.1 < m ∧ (order2 lt d a b k).2.2 ≤ k + 1 := by
  unfold order2
  split <;> exact ⟨by assumption, by assumption, by simp⟩

set_option maxRecDepth 100000 in
set_option maxHeartbeats 1000000 in
theorem order2_call (E : Env lt g lb sf sb blk n I) (d : Array α) (w0 w : World) (hI : I d w0) (p k a b : Nat) (hp : Sp w0 p k w) (ha : a < n) (hb : b < n) (hk : k ≤ 1000) :
    Calls Try.prog 51 #[.agg #[.func (.func g) #[] lb, .func (.func sf) #[] sb], .int .i64 a, .int .i64 b, .pointer (some ⟨p, 0, none⟩)] w fun e w' => e = .returned (.tuple #[.int .i64 (order2 lt d a b k).1, .int .i64 (order2 lt d a b k).2.1]) ∧ Ch (fun y => y = p) w w' ∧ Sp w0 p (order2 lt d a b k).2.2 w' := by
  have hn := E.small
  have eg := E.eg
  have hs1 : Sm w (w.alloc (.cells #[.func (.func g) #[] lb, .func (.func sf) #[] sb] 64)) := (Ch.refl _ w).alloc _
  have hP1 := hp.on hs1
  have hl := E.less d _ b a (E.keep _ _ _ hI hP1.sm) hb ha
  have c0 : (w.alloc (.cells #[.func (.func g) #[] lb, .func (.func sf) #[] sb] 64)).cell? ⟨w.heap.size, 0, none⟩ = some (.func (.func g) #[] lb) := by simp
  have HP := Lib.hid hP1
  have HC := Lib.hid hs1
  have HO : RowKit.Hid (order2 lt d a b k = if lt d[b]! d[a]! = true then (b, a, k + 1) else (a, b, k)) := Lib.hid rfl
  generalize order2 lt d a b k = O at HO ⊢
  clear hs1 hP1 hp
  go_enter Try.func51, Try.ntmps51
  cases hlv : lt d[b]! d[a]! with
  | true =>
    rw [hlv] at hl
    have HE := Lib.hid (by have e := HO.out; rw [hlv, if_pos rfl] at e; exact e)
    go_wp2_with fail
    refine hl.mono ?_
    rintro e w2 ⟨rfl, hsm⟩
    have HP2 := Lib.hid (HP.out.on hsm)
    have HC2 := Lib.hid (show Ch (fun y => y = p) w w2 from (HC.out.trans hsm).mono (fun _ _ e => e.elim))
    have q0 := HP2.out.cell
    have q1 := HP2.out.f
    have hwk : IntKind.i64.wrap ((k : Int) + 1) = (k : Int) + 1 := by rw [IntKind.wrap_i64]; omega
    clear hl hsm c0
    go_wp2_with fail
    go_ret2
    exact ⟨by rw [HE.out]; rfl, HC2.out.setCell _ _ (.inl rfl), by rw [HE.out]; exact HP2.out.set _ (k + 1) (by omega)⟩
  | false =>
    rw [hlv] at hl
    have HE := Lib.hid (by have e := HO.out; rw [hlv, if_neg (by simp)] at e; exact e)
    go_wp2_with (refine hl.mono ?_; rintro e w2 ⟨rfl, hsm⟩)
    go_ret2
    exact ⟨by rw [HE.out]; rfl, (HC.out.trans hsm).mono (fun _ _ e => e.elim), by rw [HE.out]; exact HP.out.on hsm⟩

theorem md_lt {d : Array α} {a b c k m : Nat} (ha : a < m) (hb : b < m) (hc : c < m) : (median lt d a b c k).1 < m ∧ (median lt d a b c k).2 ≤ k + 3 := by
  unfold median
  have h1 := o2_lt (lt := lt) (d := d) (k := k) ha hb
  have h2 := o2_lt (lt := lt) (d := d) (k := (order2 lt d a b k).2.2) h1.2.1 hc
  have h3 := o2_lt (lt := lt) (d := d) (k := (order2 lt d (order2 lt d a b k).2.1 c (order2 lt d a b k).2.2).2.2) h1.1 h2.1
  exact ⟨h3.2.1, by show (order2 lt d _ _ _).2.2 ≤ k + 3; omega⟩

set_option maxRecDepth 100000 in
set_option maxHeartbeats 1000000 in
theorem median_call (E : Env lt g lb sf sb blk n I) (d : Array α) (w0 w : World) (hI : I d w0) (p k a b c : Nat) (hp : Sp w0 p k w) (ha : a < n) (hb : b < n) (hc : c < n) (hk : k ≤ 100) :
    Calls Try.prog 50 #[.agg #[.func (.func g) #[] lb, .func (.func sf) #[] sb], .int .i64 a, .int .i64 b, .int .i64 c, .pointer (some ⟨p, 0, none⟩)] w fun e w' => e = .returned (.int .i64 (median lt d a b c k).1) ∧ Ch (fun y => y = p) w w' ∧ Sp w0 p (median lt d a b c k).2 w' := by
  have hs1 : Sm w (w.alloc (.cells #[.func (.func g) #[] lb, .func (.func sf) #[] sb] 64)) := (Ch.refl _ w).alloc _
  have hP1 := hp.on hs1
  have hbx : w.heap.size ≠ p := fun e => by have := hp.plt; omega
  have ho1 := order2_call E d w0 _ hI p k a b hP1 ha hb (by omega)
  have hb1 := o2_lt (lt := lt) (d := d) (k := k) ha hb
  have HM : RowKit.Hid (median lt d a b c k = ((order2 lt d (order2 lt d a b k).1 (order2 lt d (order2 lt d a b k).2.1 c (order2 lt d a b k).2.2).1 (order2 lt d (order2 lt d a b k).2.1 c (order2 lt d a b k).2.2).2.2).2.1, (order2 lt d (order2 lt d a b k).1 (order2 lt d (order2 lt d a b k).2.1 c (order2 lt d a b k).2.2).1 (order2 lt d (order2 lt d a b k).2.1 c (order2 lt d a b k).2.2).2.2).2.2)) := Lib.hid rfl
  generalize median lt d a b c k = M at HM ⊢
  generalize order2 lt d a b k = A at ho1 hb1 HM
  have c0 : (w.alloc (.cells #[.func (.func g) #[] lb, .func (.func sf) #[] sb] 64)).cell? ⟨w.heap.size, 0, none⟩ = some (.func (.func g) #[] lb) := by simp
  have c1 : (w.alloc (.cells #[.func (.func g) #[] lb, .func (.func sf) #[] sb] 64)).cell? ⟨w.heap.size, 1, none⟩ = some (.func (.func sf) #[] sb) := by simp
  have HC0 := Lib.hid c0
  have HC1 := Lib.hid c1
  have HS1 := Lib.hid hs1
  clear hs1 hP1 hp c0 c1
  go_enter Try.func50, Try.ntmps50
  go_wp2_with fail
  refine ho1.mono ?_
  rintro e w2 ⟨rfl, hch, hp2⟩
  have d0 := hch.cell HC0.out hbx
  have d1 := hch.cell HC1.out hbx
  have ho2 := order2_call E d w0 _ hI p A.2.2 A.2.1 c hp2 hb1.2.1 hc (by omega)
  have hb2 := o2_lt (lt := lt) (d := d) (k := A.2.2) hb1.2.1 hc
  generalize order2 lt d A.2.1 c A.2.2 = B at ho2 hb2 HM
  have HD0 := Lib.hid d0
  have HD1 := Lib.hid d1
  have HCA := Lib.hid (show Ch (fun y => y = p) w w2 from (Ch.mono HS1.out (fun _ _ e => e.elim)).trans hch (fun _ _ e => e))
  clear ho1 hch hp2 HC0 HC1
  go_wp2_with fail
  refine ho2.mono ?_
  rintro e w3 ⟨rfl, hch, hp3⟩
  have e0 := hch.cell HD0.out hbx
  have e1 := hch.cell HD1.out hbx
  have ho3 := order2_call E d w0 _ hI p B.2.2 A.1 B.1 hp3 hb1.1 hb2.1 (by omega)
  have HCB := Lib.hid (HCA.out.trans hch (fun _ _ e => e))
  clear ho2 hch hp3 HD0 HD1 HCA d0 d1
  go_wp2_with fail
  refine ho3.mono ?_
  rintro e w4 ⟨rfl, hch, hp4⟩
  have HCC := Lib.hid (HCB.out.trans hch (fun _ _ e => e))
  have HP4 := Lib.hid hp4
  clear ho3 hch hp4 e0 e1
  go_wp2_with fail
  go_ret
  exact ⟨by rw [HM.out]; rfl, HCC.out, by rw [HM.out]; exact HP4.out⟩

set_option maxRecDepth 100000 in
set_option maxHeartbeats 1000000 in
theorem medianAdj_call (E : Env lt g lb sf sb blk n I) (d : Array α) (w0 w : World) (hI : I d w0) (p k a : Nat) (hp : Sp w0 p k w) (ha : 0 < a) (hb : a + 1 < n) (hk : k ≤ 100) :
    Calls Try.prog 49 #[.agg #[.func (.func g) #[] lb, .func (.func sf) #[] sb], .int .i64 a, .pointer (some ⟨p, 0, none⟩)] w fun e w' => e = .returned (.int .i64 (medianAdjacent lt d a k).1) ∧ Ch (fun y => y = p) w w' ∧ Sp w0 p (medianAdjacent lt d a k).2 w' := by
  have hs1 : Sm w (w.alloc (.cells #[.func (.func g) #[] lb, .func (.func sf) #[] sb] 64)) := (Ch.refl _ w).alloc _
  have hP1 := hp.on hs1
  have hn := E.small
  have hm := median_call E d w0 _ hI p k (a - 1) a (a + 1) hP1 (by omega) (by omega) hb hk
  rw [show (((a - 1 : Nat) : Int)) = (a : Int) - 1 by omega, show (((a + 1 : Nat) : Int)) = (a : Int) + 1 by omega] at hm
  have HM : RowKit.Hid (medianAdjacent lt d a k = median lt d (a - 1) a (a + 1) k) := Lib.hid rfl
  generalize medianAdjacent lt d a k = M at HM ⊢
  have HS1 := Lib.hid hs1
  clear hs1 hP1 hp
  go_enter Try.func49, Try.ntmps49
  go_wp2_with (refine hm.mono ?_; rintro e w2 ⟨rfl, hch, hp2⟩)
  go_ret
  exact ⟨by rw [HM.out]; rfl, (Ch.mono HS1.out (fun _ _ e => e.elim)).trans hch (fun _ _ e => e), by rw [HM.out]; exact hp2⟩

def hintI : Hint → Int
  | .unknown => 0
  | .increasing => 1
  | .decreasing => 2
theorem cp_eq (d : Array α) (a b l q : Nat) (hl : l = b - a) (hq : q = l / 4) (h8 : 8 ≤ l) : choosePivot lt d a b =
    ((if 50 ≤ l then median lt d (medianAdjacent lt d (a + q * 1) 0).1 (medianAdjacent lt d (a + q * 2) (medianAdjacent lt d (a + q * 1) 0).2).1 (medianAdjacent lt d (a + q * 3) (medianAdjacent lt d (a + q * 2) (medianAdjacent lt d (a + q * 1) 0).2).2).1 (medianAdjacent lt d (a + q * 3) (medianAdjacent lt d (a + q * 2) (medianAdjacent lt d (a + q * 1) 0).2).2).2
      else median lt d (a + q * 1) (a + q * 2) (a + q * 3) 0).1,
     if (if 50 ≤ l then median lt d (medianAdjacent lt d (a + q * 1) 0).1 (medianAdjacent lt d (a + q * 2) (medianAdjacent lt d (a + q * 1) 0).2).1 (medianAdjacent lt d (a + q * 3) (medianAdjacent lt d (a + q * 2) (medianAdjacent lt d (a + q * 1) 0).2).2).1 (medianAdjacent lt d (a + q * 3) (medianAdjacent lt d (a + q * 2) (medianAdjacent lt d (a + q * 1) 0).2).2).2
      else median lt d (a + q * 1) (a + q * 2) (a + q * 3) 0).2 = 0 then .increasing else if (if 50 ≤ l then median lt d (medianAdjacent lt d (a + q * 1) 0).1 (medianAdjacent lt d (a + q * 2) (medianAdjacent lt d (a + q * 1) 0).2).1 (medianAdjacent lt d (a + q * 3) (medianAdjacent lt d (a + q * 2) (medianAdjacent lt d (a + q * 1) 0).2).2).1 (medianAdjacent lt d (a + q * 3) (medianAdjacent lt d (a + q * 2) (medianAdjacent lt d (a + q * 1) 0).2).2).2
      else median lt d (a + q * 1) (a + q * 2) (a + q * 3) 0).2 = 12 then .decreasing else .unknown) := by
  subst hq hl
  unfold choosePivot
  simp only [ge_iff_le, h8, if_true]

theorem ma_lt {d : Array α} {a k m : Nat} (ha : 0 < a) (hb : a + 1 < m) : (medianAdjacent lt d a k).1 < m ∧ (medianAdjacent lt d a k).2 ≤ k + 3 := md_lt (by omega) (by omega) hb

set_option maxRecDepth 100000 in
set_option maxHeartbeats 2000000 in
theorem choosePivot_call (E : Env lt g lb sf sb blk n I) (a b : Nat) (d : Array α) (w : World) (hI : I d w) (h12 : 12 < b - a) (hb : b ≤ n) :
    Calls Try.prog 40 #[.agg #[.func (.func g) #[] lb, .func (.func sf) #[] sb], .int .i64 a, .int .i64 b] w fun e w' => e = .returned (.tuple #[.int .i64 (choosePivot lt d a b).1, .int .i64 (hintI (choosePivot lt d a b).2)]) ∧ Sm w w' := by
  have hn := E.small
  obtain ⟨l, hl⟩ : ∃ l, l = b - a := ⟨_, rfl⟩
  obtain ⟨q, hq⟩ : ∃ q, q = l / 4 := ⟨_, rfl⟩
  have HG := Lib.hid (cp_eq (lt := lt) d a b l q hl hq (by omega))
  generalize choosePivot lt d a b = R at HG ⊢
  have HLL := Lib.hid hl
  have HQQ := Lib.hid hq
  have hb1 : a + q * 3 + 1 < n := by omega
  have hq0 : 0 < q := by omega
  have hql : 50 ≤ l → 1 < q := by omega
  have hl13 : 12 < l := by omega
  have hln : l ≤ n := by omega
  have hwl : IntKind.i64.wrap ((b : Int) - (a : Int)) = (b : Int) - (a : Int) := by rw [IntKind.wrap_i64]; omega
  have hP0 : Sp w (w.heap.size + 1) 0 ((w.alloc (.cells #[.func (.func g) #[] lb, .func (.func sf) #[] sb] 64)).alloc (.cells #[.int .i64 0] 3)) :=
    ⟨((Ch.refl _ w).alloc _).alloc _, Nat.le_succ _, 3, heap_alloc2_new w _ _⟩
  have c0 : ((w.alloc (.cells #[.func (.func g) #[] lb, .func (.func sf) #[] sb] 64)).alloc (.cells #[.int .i64 0] 3)).cell? ⟨w.heap.size, 0, none⟩ = some (.func (.func g) #[] lb) := by
    simp only [World.cell?, heap_alloc2_old w]
    rfl
  have c1 : ((w.alloc (.cells #[.func (.func g) #[] lb, .func (.func sf) #[] sb] 64)).alloc (.cells #[.int .i64 0] 3)).cell? ⟨w.heap.size, 1, none⟩ = some (.func (.func sf) #[] sb) := by
    simp only [World.cell?, heap_alloc2_old w]
    rfl
  have HP0 := Lib.hid hP0
  have HC0 := Lib.hid c0
  have HC1 := Lib.hid c1
  clear hl hq hP0 c0 c1
  go_enter Try.func40, Try.ntmps40
  go_upto_region 1 with fail
  go_cut [8] (fun s wx => s = .int .i64 l ∧ wx = w.alloc (.cells #[.func (.func g) #[] lb, .func (.func sf) #[] sb] 64))
  case first =>
    go_wp2
    go_meet
    exact ⟨by congr 1; have := HLL.out; omega, rfl⟩
  case rest =>
    obtain ⟨rfl, rfl⟩ := hcut
    have hlq : (l : Int) / 4 = (q : Int) := by have := HQQ.out; omega
    have hw1 : IntKind.i64.wrap ((a : Int) + (q : Int)) = (a : Int) + (q : Int) := by rw [IntKind.wrap_i64]; omega
    have hw2 : IntKind.i64.wrap ((q : Int) * 2) = (q : Int) * 2 := by rw [IntKind.wrap_i64]; omega
    have hw3 : IntKind.i64.wrap ((q : Int) * 3) = (q : Int) * 3 := by rw [IntKind.wrap_i64]; omega
    have hw4 : IntKind.i64.wrap ((a : Int) + (q : Int) * 2) = (a : Int) + (q : Int) * 2 := by rw [IntKind.wrap_i64]; omega
    have hw5 : IntKind.i64.wrap ((a : Int) + (q : Int) * 3) = (a : Int) + (q : Int) * 3 := by rw [IntKind.wrap_i64]; omega
    go_upto_region 3 with fail
    generalize (w.alloc (.cells #[.func (.func g) #[] lb, .func (.func sf) #[] sb] 64)).alloc (.cells #[.int .i64 0] 3) = w2 at HP0 HC0 HC1 ⊢
    obtain ⟨i1, hi1⟩ : ∃ x, x = a + q * 1 := ⟨_, rfl⟩
    obtain ⟨i2, hi2⟩ : ∃ x, x = a + q * 2 := ⟨_, rfl⟩
    obtain ⟨i3, hi3⟩ : ∃ x, x = a + q * 3 := ⟨_, rfl⟩
    rw [← hi1, ← hi2, ← hi3] at HG
    have HI1 := Lib.hid hi1
    have HI2 := Lib.hid hi2
    have HI3 := Lib.hid hi3
    have hn1 : i1 + 1 < n := by omega
    have hn2 : i2 + 1 < n := by omega
    have hn3 : i3 + 1 < n := by omega
    have hp1 : 50 ≤ l → 0 < i1 ∧ 0 < i2 ∧ 0 < i3 := by omega
    clear hi1 hi2 hi3
    go_cut [10] (fun s wx => s = .int .i64 i1 ∧ wx = w2)
    case first =>
      go_wp2
      go_meet
      exact ⟨by congr 1; have := HI1.out; omega, rfl⟩
    case rest =>
      obtain ⟨rfl, rfl⟩ := hcut
      go_upto_region 4 with fail
      go_cut [11] (fun s wx => s = .int .i64 i2 ∧ wx = wc)
      case first =>
        go_wp2
        go_meet
        exact ⟨by congr 1; have := HI2.out; omega, rfl⟩
      case rest =>
        obtain ⟨rfl, hw⟩ := hcut
        subst hw
        go_upto_region 5 with fail
        go_cut [12] (fun s wx => s = .int .i64 i3 ∧ wx = wc)
        case first =>
          go_wp2
          go_meet
          exact ⟨by congr 1; have := HI3.out; omega, rfl⟩
        case rest =>
          obtain ⟨rfl, hw⟩ := hcut
          subst hw
          have hd8 : decide ((8 : Int) ≤ (l : Int)) = true := decide_eq_true (by omega)
          have y0 := HC0.out
          have y1 := HC1.out
          clear hlq hw1 hw2 hw3 hw4 hw5
          by_cases h50 : 50 ≤ l
          · have hd50 : decide ((50 : Int) ≤ (l : Int)) = true := decide_eq_true (by omega)
            obtain ⟨hz1, hz2, hz3⟩ := hp1 h50
            simp only [h50, if_true] at HG
            have hm1 := ma_lt (lt := lt) (d := d) (k := 0) hz1 hn1
            have hc := medianAdj_call E d w _ hI _ 0 i1 HP0.out hz1 hn1 (by omega)
            go_wp2_with fail
            refine hc.mono ?_
            rintro e w3 ⟨rfl, hch, hpx⟩
            have x0 := hch.cell HC0.out (by show w.heap.size ≠ w.heap.size + 1; omega)
            have x1 := hch.cell HC1.out (by show w.heap.size ≠ w.heap.size + 1; omega)
            have HP1 := Lib.hid hpx
            have HC2 := Lib.hid x0
            have HC3 := Lib.hid x1
            clear hc hch hpx HP0 HC0 HC1 y0 y1
            have y0 := x0
            have y1 := x1
            clear x0 x1
            generalize medianAdjacent lt d i1 0 = M1 at HG hm1 HP1 ⊢
            have hm2 := ma_lt (lt := lt) (d := d) (k := M1.2) hz2 hn2
            have hc := medianAdj_call E d w _ hI _ M1.2 i2 HP1.out hz2 hn2 (by omega)
            go_wp2_with fail
            refine hc.mono ?_
            rintro e w4 ⟨rfl, hch, hpx⟩
            have x0 := hch.cell HC2.out (by show w.heap.size ≠ w.heap.size + 1; omega)
            have x1 := hch.cell HC3.out (by show w.heap.size ≠ w.heap.size + 1; omega)
            have HP2 := Lib.hid hpx
            have HC4 := Lib.hid x0
            have HC5 := Lib.hid x1
            clear hc hch hpx HP1 HC2 HC3 y0 y1
            have y0 := x0
            have y1 := x1
            clear x0 x1
            generalize medianAdjacent lt d i2 M1.2 = M2 at HG hm2 HP2 ⊢
            have hm3 := ma_lt (lt := lt) (d := d) (k := M2.2) hz3 hn3
            have hc := medianAdj_call E d w _ hI _ M2.2 i3 HP2.out hz3 hn3 (by omega)
            go_wp2_with fail
            refine hc.mono ?_
            rintro e w5 ⟨rfl, hch, hpx⟩
            have x0 := hch.cell HC4.out (by show w.heap.size ≠ w.heap.size + 1; omega)
            have x1 := hch.cell HC5.out (by show w.heap.size ≠ w.heap.size + 1; omega)
            have HP3 := Lib.hid hpx
            have HC6 := Lib.hid x0
            have HC7 := Lib.hid x1
            clear hc hch hpx HP2 HC4 HC5 y0 y1
            have y0 := x0
            have y1 := x1
            clear x0 x1
            generalize medianAdjacent lt d i3 M2.2 = M3 at HG hm3 HP3 ⊢
            have hm4 := md_lt (lt := lt) (d := d) (k := M3.2) hm1.1 hm2.1 hm3.1
            have hc := median_call E d w _ hI _ M3.2 M1.1 M2.1 M3.1 HP3.out hm1.1 hm2.1 hm3.1 (by omega)
            go_wp2_with fail
            refine hc.mono ?_
            rintro e w6 ⟨rfl, hch, hpx⟩
            have x0 := hch.cell HC6.out (by show w.heap.size ≠ w.heap.size + 1; omega)
            have x1 := hch.cell HC7.out (by show w.heap.size ≠ w.heap.size + 1; omega)
            have HP4 := Lib.hid hpx
            have HC8 := Lib.hid x0
            have HC9 := Lib.hid x1
            clear hc hch hpx HP3 HC6 HC7 y0 y1
            have y0 := x0
            have y1 := x1
            clear x0 x1
            generalize median lt d M1.1 M2.1 M3.1 M3.2 = MZ at HG hm4 HP4 ⊢
            obtain ⟨z, m⟩ := MZ
            have HPZ := Lib.hid HP4.out
            have z0 := HP4.out.cell
            clear y0 y1 HP4
            simp only at HG hm4 HPZ z0 ⊢
            cases hm0 : decide (m = 0) with
            | true =>
              obtain rfl : m = 0 := of_decide_eq_true hm0
              go_wp2_with fail
              go_ret2
              exact ⟨by rw [HG.out]; rfl, HPZ.out.sm⟩
            | false =>
              have hm0 : m ≠ 0 := of_decide_eq_false hm0
              by_cases hm12 : m = 12
              · subst hm12
                go_wp2_with fail
                go_ret2
                exact ⟨by rw [HG.out]; rfl, HPZ.out.sm⟩
              · have e0 : ((m : Int) == 0) = false := by simp; omega
                have e12 : ((m : Int) == 12) = false := by simp; omega
                go_wp2_with fail
                go_ret2
                exact ⟨by rw [HG.out, if_neg hm0, if_neg hm12]; rfl, HPZ.out.sm⟩
          · have hd50 : decide ((50 : Int) ≤ (l : Int)) = false := decide_eq_false (by omega)
            simp only [h50, if_false] at HG
            have hm4 := md_lt (lt := lt) (d := d) (k := 0) (show i1 < n by omega) (show i2 < n by omega) (show i3 < n by omega)
            have hc := median_call E d w _ hI _ 0 i1 i2 i3 HP0.out (by omega) (by omega) (by omega) (by omega)
            go_wp2_with fail
            refine hc.mono ?_
            rintro e w6 ⟨rfl, hch, hpx⟩
            have x0 := hch.cell HC0.out (by show w.heap.size ≠ w.heap.size + 1; omega)
            have x1 := hch.cell HC1.out (by show w.heap.size ≠ w.heap.size + 1; omega)
            have HP4 := Lib.hid hpx
            have HC8 := Lib.hid x0
            have HC9 := Lib.hid x1
            clear hc hch hpx HP0 HC0 HC1 y0 y1
            have y0 := x0
            have y1 := x1
            clear x0 x1
            generalize median lt d i1 i2 i3 0 = MZ at HG hm4 HP4 ⊢
            obtain ⟨z, m⟩ := MZ
            have HPZ := Lib.hid HP4.out
            have z0 := HP4.out.cell
            clear y0 y1 HP4
            simp only at HG hm4 HPZ z0 ⊢
            cases hm0 : decide (m = 0) with
            | true =>
              obtain rfl : m = 0 := of_decide_eq_true hm0
              go_wp2_with fail
              go_ret2
              exact ⟨by rw [HG.out]; rfl, HPZ.out.sm⟩
            | false =>
              have hm0 : m ≠ 0 := of_decide_eq_false hm0
              by_cases hm12 : m = 12
              · subst hm12
                go_wp2_with fail
                go_ret2
                exact ⟨by rw [HG.out]; rfl, HPZ.out.sm⟩
              · have e0 : ((m : Int) == 0) = false := by simp; omega
                have e12 : ((m : Int) == 12) = false := by simp; omega
                go_wp2_with fail
                go_ret2
                exact ⟨by rw [HG.out, if_neg hm0, if_neg hm12]; rfl, HPZ.out.sm⟩
end
end Go.Proofs.Ytdbpdnfniidfhaa
