/- Law LengthTableWays. -/
import Derived.Test.YtckopdifjhjppaaLwK
set_option linter.unusedVariables false
set_option linter.unusedSimpArgs false
namespace Go.Proofs.Ytckopdifjhjppaa
open Go.RowKit

/-- A first length and adjustments in one direction. -/
def Bm (f way : Int) (m : Nat) : List Int := nibV f ++ (List.replicate m [(1 : Int), way]).flatten
theorem Bm_len (f way : Int) (m : Nat) : (Bm f way m).length = 4 + 2 * m := by
  unfold Bm
  rw [List.length_append, rep_len _ rfl]
  rfl
theorem Bm_succ (f way : Int) (m : Nat) : Bm f way (m + 1) = Bm f way m ++ [1, way] := by
  unfold Bm
  rw [rep_snoc, List.append_assoc]
theorem Bm_bit (f way : Int) (hw : bit way) (m : Nat) : ∀ b ∈ Bm f way m, bit b := fun b hb => by
  rcases List.mem_append.1 hb with hb | hb
  · unfold bit
    simp only [nibV, List.mem_cons, List.not_mem_nil, or_false] at hb
    omega
  · exact rep_bit _ (by intro b hb; simp at hb; rcases hb with rfl | rfl; exact .inr rfl; exact hw) _ b hb
/-- The way's number is a direction, the room what is left in it. -/
def WR (f way room : Int) : Prop := way = 0 ∧ room = 15 - f ∨ way = 1 ∧ room = f
theorem Bm_run (f way room : Int) (hf : 0 ≤ f ∧ f ≤ 15) (h : WR f way room) (m : Nat) (hm : (m : Int) ≤ room) : ∃ d : TS, runS tableV z0 (Bm f way m) = some d ∧ d.y = 0 ∧ d.t = 4 ∧ (way = 0 → d.n = f + m ∧ (0 < m → d.a = 1)) ∧ (way = 1 → d.n = f - m ∧ (0 < m → d.a = 2)) := by
  unfold Bm
  rw [runS_append, run_nib tableV f hf]
  rcases h with ⟨rfl, hr⟩ | ⟨rfl, hr⟩
  · refine ⟨_, run_ups tableV z0.L 0 (by decide) m f 0 (.inl rfl) (by omega) hf.1, rfl, rfl, fun _ => ⟨rfl, fun h => if_neg (by omega)⟩, fun e => absurd e (by decide)⟩
  · refine ⟨_, run_downs tableV z0.L 0 (by decide) m f 0 (.inl rfl) (by omega) hf.2, rfl, rfl, fun e => absurd e (by decide), fun _ => ⟨rfl, fun h => if_neg (by omega)⟩⟩
theorem read_one4 {c : TS} (h4 : c.t = 4) (hy : c.y = 0) (k : Nat) (bs : List Int) : readS tableV c k (1 :: bs) = readS tableV { c with t := 5 } (k + 1) bs := by
  obtain ⟨e1, e2⟩ := one_step h4
  rw [readS_on tableV c k (.inr rfl) e2 (by rw [e1]; show c.y ≠ 258; omega), e1]
theorem ways_math (f way room : Int) (hf : 0 ≤ f ∧ f ≤ 15) (h : WR f way room) :
    (∀ m : Nat, (m : Int) ≤ room → readS tableV z0 0 (Bm f way m) = (z0.L, 0, 50)) ∧ (∀ m : Nat, (m : Int) = room → readS tableV z0 0 (Bm f way m ++ [1, way]) = (z0.L, 0, 100)) ∧
    (∀ m : Nat, 1 ≤ m → (m : Int) ≤ room → readS tableV z0 0 (Bm f way m ++ [1, 1 - way]) = (z0.L, 0, 100)) ∧ (∀ m : Nat, (m : Int) ≤ room → readS tableV z0 0 (Bm f way m ++ [1]) = (z0.L, 0, 50)) := by
  have hw : bit way := by rcases h with ⟨e, _⟩ | ⟨e, _⟩; exact .inl e; exact .inr e
  have key : ∀ (m : Nat), (m : Int) ≤ room → ∀ r, ∃ d : TS, readS tableV z0 0 (Bm f way m ++ r) = readS tableV d (0 + (Bm f way m).length) r ∧ d.y = 0 ∧ d.t = 4 ∧ (way = 0 → d.n = f + m ∧ (0 < m → d.a = 1)) ∧ (way = 1 → d.n = f - m ∧ (0 < m → d.a = 2)) := fun m hm r => by
    obtain ⟨d, h1, h2, h3, h4, h5⟩ := Bm_run f way room hf h m hm
    exact ⟨d, read_run tableV _ 0 (Bm_bit f way hw m) h1 (by omega) r, h2, h3, h4, h5⟩
  refine ⟨fun m hm => ?_, fun m hm => ?_, fun m h1 hm => ?_, fun m hm => ?_⟩
  · obtain ⟨d, e, _⟩ := key m hm []
    rw [List.append_nil] at e
    rw [e]
    rfl
  · obtain ⟨d, e, hy, ht, hu, hd⟩ := key m (by omega) [1, way]
    rw [e, read_one4 ht hy]
    have h5 : ({ d with t := 5 } : TS).t = 5 := rfl
    rcases h with ⟨rfl, hr⟩ | ⟨rfl, hr⟩
    · have := (hu rfl).1
      exact readS_bad tableV _ _ (.inl rfl) (by rw [(adj_up h5).2]; simp; intro _; omega) _
    · have := (hd rfl).1
      exact readS_bad tableV _ _ (.inr rfl) (by rw [(adj_down h5).2]; simp; intro _; omega) _
  · obtain ⟨d, e, hy, ht, hu, hd⟩ := key m hm [1, 1 - way]
    rw [e, read_one4 ht hy]
    have h5 : ({ d with t := 5 } : TS).t = 5 := rfl
    rcases h with ⟨rfl, hr⟩ | ⟨rfl, hr⟩
    · have := (hu rfl).2 (by omega)
      exact readS_bad tableV _ _ (.inr rfl) (by show wayB tableV _ 1 = false; rw [(adj_down h5).2]; simp; intro e; exact absurd this e) _
    · have := (hd rfl).2 (by omega)
      exact readS_bad tableV _ _ (.inl rfl) (by show wayB tableV _ 0 = false; rw [(adj_up h5).2]; simp; intro e; exact absurd this e) _
  · obtain ⟨d, e, hy, ht, _⟩ := key m hm [1]
    rw [e, read_one4 ht hy]
    rfl

theorem NewO.fresh {w w3 : World} (hb : Below w.heap.size w w3) : NewO w (w3.alloc (.cells #[] 3)) (some w3.heap.size) 0 [] := ⟨OwnS.empty (heap_alloc_last w3 _), (fun g e => by injection e with e; rw [← e]; exact hb.size), hb.alloc hb.size _⟩
theorem NewO.past {w w3 w4 : World} {A : Option Nat} {c : Nat} {q : List Int} {o : Obj} (h : NewO w w3 A c q) (hg : (w3.alloc o).grownBy w4 (some w3.heap.size)) : NewO w w4 A c q :=
  ⟨(h.own.alloc o).keep hg (fun g e e2 => by injection e2 with e2; have := h.own.lt e; omega), h.new, (h.bel.alloc h.bel.size o).grown hg (by have := h.bel.size; simp; omega) (fun g e => by injection e with e; rw [← e]; exact h.bel.size)⟩
theorem NewO.apart {w w3 : World} {A A4 : Option Nat} {c : Nat} {q : List Int} {o : Obj} (h : NewO w w3 A c q) (ha : A4 = some w3.heap.size ∨ A4 = some (w3.alloc o).heap.size) : ∀ g, A = some g → A4 ≠ some g := fun g e e2 => by
  have := h.own.lt e
  rcases ha with h1 | h1
  · rw [h1] at e2; injection e2 with e2; omega
  · rw [h1] at e2; injection e2 with e2; simp at e2; omega
theorem NewO.over {w w4 w5 : World} {A A4 : Option Nat} {c c4 : Nat} {q q4 : List Int} {o : Obj} (h : NewO w w4 A c q) (hd : ∀ g, A = some g → A4 ≠ some g) (h4 : NewO w w4 A4 c4 q4) (hg : (w4.alloc o).grownBy w5 A4) : NewO w w5 A c q :=
  ⟨(h.own.alloc o).keep hg (fun g e => hd g e), h.new, (h.bel.alloc h.bel.size o).grown hg (by have := h.bel.size; simp; omega) (fun g e => h4.new g e)⟩

set_option maxRecDepth 100000 in
set_option maxHeartbeats 4000000 in
theorem ways_in (f m : Int) (dn : Bool) (hf : 0 ≤ f ∧ f ≤ 15) (hm : 1 ≤ m ∧ m ≤ 20) (w : World) :
    Calls Try.prog 6 #[.int .i64 f, .int .i64 m, .bool dn] w fun e w' => e = .returned (.bool true) ∧ Below w.heap.size w w' := by
  have d1 : decide (f < 0) = false := decide_eq_false (by omega)
  have d2 : decide (15 < f) = false := decide_eq_false (by omega)
  have d3 : decide (m < 1) = false := decide_eq_false (by omega)
  have d4 : decide (20 < m) = false := decide_eq_false (by omega)
  have a1 := and1_small (f / 4) (by omega)
  have a2 := and1_small (f / 2) (by omega)
  have a3 := and1_small f hf
  go_enter Try.func6, Try.ntmps6
  go_upto_region 4 with fail
  have hown : NewO w (w.alloc (.cells #[.int .i64 (f / 8), .int .i64 (f / 4 % 2), .int .i64 (f / 2 % 2), .int .i64 (f % 2)] 3)) (some w.heap.size) 4 (Bm f 0 0) := by
    have e : Bm f 0 0 = [f / 8, f / 4 % 2, f / 2 % 2, f % 2] := by
      have : f / 8 % 2 = f / 8 := by omega
      show [f / 8 % 2, f / 4 % 2, f / 2 % 2, f % 2] ++ [] = _
      rw [this]
      rfl
    rw [e]
    exact ⟨OwnS.lit (l := [f / 8, f / 4 % 2, f / 2 % 2, f % 2]) (heap_alloc_last w _) (by simp), (fun g e => by injection e with e; omega), (Below.refl _ _).alloc (Nat.le_refl _) _⟩
  have had : (some ⟨w.heap.size, 0, none⟩ : Option Addr) = ad0 (some w.heap.size) := rfl
  rw [had]
  clear had
  have HOW := Lib.hid hown
  generalize w.alloc (.cells #[.int .i64 (f / 8), .int .i64 (f / 4 % 2), .int .i64 (f / 2 % 2), .int .i64 (f % 2)] 3) = w1 at HOW ⊢
  clear hown a1 a2 a3 d1 d2 d3 d4
  have hwr1 : IntKind.i64.wrap (15 - f) = 15 - f := by rw [IntKind.wrap_i64]; omega
  go_upto_region 5 with fail
  go_upto_if 51 with fail
  go_cut [8, 9] (fun s8 s9 wx => ∃ way room : Int, s8 = .int .i64 way ∧ s9 = .int .i64 room ∧ WR f way room ∧ wx = w1)
  case first =>
    cases dn with
    | true =>
      go_wp2_with fail
      go_meet
      exact ⟨1, f, rfl, rfl, .inr ⟨rfl, rfl⟩, rfl⟩
    | false =>
      go_wp2_with fail
      go_meet
      exact ⟨0, 15 - f, rfl, rfl, .inl ⟨rfl, rfl⟩, rfl⟩
  case rest =>
    obtain ⟨way, room, rfl, rfl, hWR, hwc⟩ := hcut
    obtain rfl : w1 = wc := hwc.symm
    clear hwr1
    obtain ⟨m1, m2, m3, m4⟩ := ways_math f way room hf hWR
    have hway : way = 0 ∨ way = 1 := by rcases hWR with ⟨e, _⟩ | ⟨e, _⟩; exact .inl e; exact .inr e
    obtain ⟨rm, hrm⟩ : ∃ rm : Nat, room = rm := ⟨room.toNat, by rcases hWR with ⟨_, e⟩ | ⟨_, e⟩ <;> omega⟩
    have hrm15 : rm ≤ 15 := by rcases hWR with ⟨_, e⟩ | ⟨_, e⟩ <;> omega
    obtain ⟨mm, hmm⟩ : ∃ mm : Nat, m = mm := ⟨m.toNat, by omega⟩
    rw [hrm] at m1 m2 m3 m4 ⊢
    have hmm20 : 1 ≤ mm ∧ mm ≤ 20 := by omega
    subst hmm
    have e0 : Bm f way 0 = Bm f 0 0 := rfl
    rw [← e0] at HOW
    have HBL := Lib.hid (Bm_len f way)
    have HBS := Lib.hid (Bm_succ f way)
    have hdw : (1 : Int) - way = 0 ∨ (1 : Int) - way = 1 := by omega
    have hwd : IntKind.i64.wrap (1 - way) = 1 - way := by rw [IntKind.wrap_i64]; omega
    have HM1 := Lib.hid (fun k (h : k ≤ rm) => m1 k (by omega))
    have HM2 := Lib.hid (m2 rm rfl)
    have HM3 := Lib.hid (fun k (h1 : 1 ≤ k) (h : k ≤ rm) => m3 k h1 (by omega))
    have HM4 := Lib.hid (fun k (h : k ≤ rm) => m4 k (by omega))
    have hwk := Lib.hid wakes_call
    have hzL := lngZ
    clear m1 m2 m3 m4 hWR hrm e0 hf hm
    by_cases hgt : rm < mm
    · have dgt : decide ((rm : Int) < (mm : Int)) = true := decide_eq_true (by omega)
      have HB0 := Lib.hid HOW.out.bel
      go_upto_region 8 with fail
      go_loopw [7, 10] (fun s i wr => ∃ (k : Nat) (A : Option Nat) (n c : Nat), k ≤ rm ∧ i = .int .i64 k ∧ s = .slice (ad0 A) n c ∧ n = 4 + 2 * k ∧ NewO w wr A c (Bm f way k)) (fun _ i _ => rm - (intOf i).toNat)
      case atStart => exact ⟨0, some w.heap.size, 4, 4, by omega, rfl, rfl, rfl, HOW.out⟩
      case round =>
        obtain ⟨k, A, n, c, hk, rfl, rfl, hn, hs⟩ := hrel
        have HS := Lib.hid hs
        have HNN := Lib.hid hn
        have hn50 : n ≤ 50 := by omega
        clear hs hn
        by_cases hlt : k < rm
        · go_wp2_with (
            refine wpList_appendI rfl _ _ 26 rfl 3 .i64 8 intsT intI A c (Bm f way k) n (by rw [HBL.out, HNN.out]) rfl (HS.out.own.alloc _) (some ⟨wr.heap.size, 0, none⟩) 2 2 rfl [1, way] rfl (Src.whole (l := [1, way]) (heap_alloc_last wr _)) (by unfold maxLen; omega) (by omega) ?_
            intro A' c' w4 h1 h2 h3)
          exact ⟨⟨k + 1, A', n + 2, c', by omega, by go_num, rfl, by rw [HNN.out]; omega, by rw [HBS.out]; exact (HS.out.alloc _).app h1 h2 h3⟩, by simp [intOf]; omega⟩
        · obtain rfl : k = rm := by omega
          have HR1 := Lib.hid (fun W (hW : Src W .i64 (ad0 A) (Bm f way k)) => (show Calls Try.prog 17 #[.slice (ad0 A) n c] W fun e w' => e = .returned (.tuple #[.agg (lg zL), .int .i64 0, .int .i64 50]) ∧ Below W.heap.size W w' from by
            have h := read_call (ad0 A) n c _ (by rw [HBL.out, HNN.out]) (by omega) W hW
            rw [HM1.out k (by omega)] at h
            exact h))
          have hzs := lg_size zL_lng
          have hsrc := HS.out.own.src
          go_upto_region 12 with (first
            | (with_reducible refine (HR1.out _ hsrc).mono ?_
               rintro e w2 ⟨rfl, hb2⟩)
            | (refine wpList_store_row rfl 23 _ _ rfl w2.heap.size (lg zL) rfl rfl 23 (lg zL) (heap_alloc_last w2 _) lngI rfl (lg_all _) ?_))
          rw [World.setRow_alloc_new]
          try simp only [Act.put]
          have hby := hb2.alloc (o := .cells (lg zL) 23) hb2.size
          replace HS := Lib.hid (HS.out.on hby)
          clear hb2 hby hsrc
          generalize w2.alloc (.cells (lg zL) 23) = w3 at HS ⊢
          go_upto_region 16 with (first
            | (at_builtin; refine wpList_appendI rfl _ _ 26 rfl 3 .i64 8 intsT intI A c (Bm f way k) n (by rw [HBL.out, HNN.out]) rfl (HS.out.own.alloc _) (some ⟨w3.heap.size, 0, none⟩) 2 2 rfl [1, way] rfl (Src.whole (l := [1, way]) (heap_alloc_last w3 _)) (by unfold maxLen; omega) (by omega) ?_
               intro A' c' w4 h1 h2 h3
               have HN4 := Lib.hid ((HS.out.alloc _).app h1 h2 h3)
               have hs4 := HN4.out.own.src
               have HR2 := Lib.hid (show Calls Try.prog 17 #[.slice (ad0 A') (n + 2) c'] w4 fun e w' => e = .returned (.tuple #[.agg (lg zL), .int .i64 0, .int .i64 100]) ∧ Below w4.heap.size w4 w' from by
                 have h := read_call (ad0 A') (n + 2) c' _ (by rw [List.length_append, HBL.out, HNN.out]; rfl) (by omega) w4 hs4
                 rw [HM2.out] at h
                 exact h)
               clear h1 h2 h3 hs4)
            | (with_reducible refine HR2.out.mono ?_
               rintro e w5 ⟨rfl, hb5⟩)
            | (refine wpList_store_row rfl 23 _ _ rfl w5.heap.size (lg zL) rfl rfl 23 (lg zL) (heap_alloc_last w5 _) lngI rfl (lg_all _) ?_))
          rw [World.setRow_alloc_new]
          try simp only [Act.put]
          have hby := hb5.alloc (o := .cells (lg zL) 23) hb5.size
          have HB := Lib.hid (HN4.out.bel.trans (hby.mono HN4.out.bel.size))
          clear hby hb5
          generalize w5.alloc (.cells (lg zL) 23) = w6 at HB ⊢
          go_wp2_with (with_reducible refine (hwk.out _).mono ?_; rintro e w7 ⟨rfl, hb7⟩)
          go_ret
          exact ⟨rfl, HB.out.trans (hb7.mono HB.out.size)⟩
    · have dgt : decide ((rm : Int) < (mm : Int)) = false := decide_eq_false (by omega)
      have HB0 := Lib.hid HOW.out.bel
      go_upto_region 8 with fail
      go_loopw [7, 10] (fun s i wr => ∃ (k : Nat) (A : Option Nat) (n c : Nat), k ≤ mm ∧ i = .int .i64 k ∧ s = .slice (ad0 A) n c ∧ n = 4 + 2 * k ∧ NewO w wr A c (Bm f way k)) (fun _ i _ => mm - (intOf i).toNat)
      case atStart => exact ⟨0, some w.heap.size, 4, 4, by omega, rfl, rfl, rfl, HOW.out⟩
      case round =>
        obtain ⟨k, A, n, c, hk, rfl, rfl, hn, hs⟩ := hrel
        have HS := Lib.hid hs
        have HNN := Lib.hid hn
        have hn50 : n ≤ 50 := by omega
        clear hs hn
        by_cases hlt : k < mm
        · go_wp2_with (
            refine wpList_appendI rfl _ _ 26 rfl 3 .i64 8 intsT intI A c (Bm f way k) n (by rw [HBL.out, HNN.out]) rfl (HS.out.own.alloc _) (some ⟨wr.heap.size, 0, none⟩) 2 2 rfl [1, way] rfl (Src.whole (l := [1, way]) (heap_alloc_last wr _)) (by unfold maxLen; omega) (by omega) ?_
            intro A' c' w4 h1 h2 h3)
          exact ⟨⟨k + 1, A', n + 2, c', by omega, by go_num, rfl, by rw [HNN.out]; omega, by rw [HBS.out]; exact (HS.out.alloc _).app h1 h2 h3⟩, by simp [intOf]; omega⟩
        · obtain rfl : k = mm := by omega
          have HR1 := Lib.hid (fun W (hW : Src W .i64 (ad0 A) (Bm f way k)) => (show Calls Try.prog 17 #[.slice (ad0 A) n c] W fun e w' => e = .returned (.tuple #[.agg (lg zL), .int .i64 0, .int .i64 50]) ∧ Below W.heap.size W w' from by
            have h := read_call (ad0 A) n c _ (by rw [HBL.out, HNN.out]) (by omega) W hW
            rw [HM1.out k (by omega)] at h
            exact h))
          have hzs := lg_size zL_lng
          have hsrc := HS.out.own.src
          go_upto_region 12 with (first
            | (with_reducible refine (HR1.out _ hsrc).mono ?_
               rintro e w2 ⟨rfl, hb2⟩)
            | (refine wpList_store_row rfl 23 _ _ rfl w2.heap.size (lg zL) rfl rfl 23 (lg zL) (heap_alloc_last w2 _) lngI rfl (lg_all _) ?_))
          rw [World.setRow_alloc_new]
          try simp only [Act.put]
          have hby := hb2.alloc (o := .cells (lg zL) 23) hb2.size
          replace HS := Lib.hid (HS.out.on hby)
          clear hb2 hby hsrc
          generalize w2.alloc (.cells (lg zL) 23) = w3 at HS ⊢
          go_upto_region 18 with (first
            | (at_builtin; refine wpList_appendI rfl _ _ 26 rfl 3 .i64 8 intsT intI (some w3.heap.size) 0 [] 0 rfl rfl (OwnS.empty (heap_alloc_last w3 _)) (ad0 A) n c rfl (Bm f way k) (by rw [HBL.out, HNN.out]) (HS.out.alloc _).own.src (by unfold maxLen; omega) (by omega) ?_
               intro A4 c4 w4 h4 hg4 ha4
               have HN4 := Lib.hid (NewO.app (NewO.fresh HS.out.bel) h4 hg4 ha4)
               have HS4 := Lib.hid (HS.out.past hg4)
               have HD4 := Lib.hid (HS.out.apart ha4)
               clear h4 hg4 ha4)
            | (at_builtin; refine wpList_appendI rfl _ _ 26 rfl 3 .i64 8 intsT intI A4 c4 ([] ++ Bm f way k) n (by simp [HBL.out, HNN.out]) rfl (HN4.out.own.alloc _) (some ⟨w4.heap.size, 0, none⟩) 2 2 rfl [1, 1 - way] rfl (Src.whole (l := [1, 1 - way]) (heap_alloc_last w4 _)) (by unfold maxLen; omega) (by omega) ?_
               intro A5 c5 w5 h5 hg5 ha5
               have HN5 := Lib.hid ((HN4.out.alloc _).app h5 hg5 ha5)
               have HS5 := Lib.hid (HS4.out.over HD4.out HN4.out hg5)
               have HR2 := Lib.hid (show Calls Try.prog 17 #[.slice (ad0 A5) (n + 2) c5] w5 fun e w' => e = .returned (.tuple #[.agg (lg zL), .int .i64 0, .int .i64 100]) ∧ Below w5.heap.size w5 w' from by
                 have h := read_call (ad0 A5) (n + 2) c5 _ (by simp [HBL.out, HNN.out]) (by omega) w5 HN5.out.own.src
                 rw [List.nil_append, HM3.out k (by omega) (by omega)] at h
                 exact h)
               clear h5 hg5 ha5)
            | (with_reducible refine HR2.out.mono ?_
               rintro e w6 ⟨rfl, hb6⟩)
            | (refine wpList_store_row rfl 23 _ _ rfl w6.heap.size (lg zL) rfl rfl 23 (lg zL) (heap_alloc_last w6 _) lngI rfl (lg_all _) ?_))
          rw [World.setRow_alloc_new]
          try simp only [Act.put]
          have hby := hb6.alloc (o := .cells (lg zL) 23) hb6.size
          replace HS := Lib.hid (HS5.out.on hby)
          clear hby hb6 HR2 HN5 HS5 HN4 HS4 HD4
          generalize w6.alloc (.cells (lg zL) 23) = w7 at HS ⊢
          go_upto_region 19 with (first
            | (at_builtin; refine wpList_appendI rfl _ _ 26 rfl 3 .i64 8 intsT intI (some w7.heap.size) 0 [] 0 rfl rfl (OwnS.empty (heap_alloc_last w7 _)) (ad0 A) n c rfl (Bm f way k) (by rw [HBL.out, HNN.out]) (HS.out.alloc _).own.src (by unfold maxLen; omega) (by omega) ?_
               intro A4 c4 w8 h4 hg4 ha4
               have HN4 := Lib.hid (NewO.app (NewO.fresh HS.out.bel) h4 hg4 ha4)
               clear h4 hg4 ha4)
            | (at_builtin; refine wpList_appendI rfl _ _ 26 rfl 3 .i64 8 intsT intI A4 c4 ([] ++ Bm f way k) n (by simp [HBL.out, HNN.out]) rfl (HN4.out.own.alloc _) (some ⟨w8.heap.size, 0, none⟩) 1 1 rfl [1] rfl (Src.whole (l := [1]) (heap_alloc_last w8 _)) (by unfold maxLen; omega) (by omega) ?_
               intro A5 c5 w9 h5 hg5 ha5
               have HN5 := Lib.hid ((HN4.out.alloc _).app h5 hg5 ha5)
               have HR2 := Lib.hid (show Calls Try.prog 17 #[.slice (ad0 A5) (n + 1) c5] w9 fun e w' => e = .returned (.tuple #[.agg (lg zL), .int .i64 0, .int .i64 50]) ∧ Below w9.heap.size w9 w' from by
                 have h := read_call (ad0 A5) (n + 1) c5 _ (by simp [HBL.out, HNN.out]) (by omega) w9 HN5.out.own.src
                 rw [List.nil_append, HM4.out k (by omega)] at h
                 exact h)
               clear h5 hg5 ha5)
            | (with_reducible refine HR2.out.mono ?_
               rintro e w10 ⟨rfl, hb10⟩)
            | (refine wpList_store_row rfl 23 _ _ rfl w10.heap.size (lg zL) rfl rfl 23 (lg zL) (heap_alloc_last w10 _) lngI rfl (lg_all _) ?_))
          rw [World.setRow_alloc_new]
          try simp only [Act.put]
          have hby := hb10.alloc (o := .cells (lg zL) 23) hb10.size
          have HB := Lib.hid (HN5.out.bel.trans (hby.mono HN5.out.bel.size))
          clear hby hb10
          generalize w10.alloc (.cells (lg zL) 23) = w11 at HB ⊢
          go_wp2_with (with_reducible refine (hwk.out _).mono ?_; rintro e w12 ⟨rfl, hb12⟩)
          go_ret
          exact ⟨rfl, HB.out.trans (hb12.mono HB.out.size)⟩

set_option maxHeartbeats 1000000 in
theorem ways_out (f m : Int) (dn : Bool) (h : ¬ (0 ≤ f ∧ f ≤ 15 ∧ 1 ≤ m ∧ m ≤ 20)) (w : World) :
    Calls Try.prog 6 #[.int .i64 f, .int .i64 m, .bool dn] w fun e w' => e = .returned (.bool true) ∧ Below w.heap.size w w' := by
  have hwk := wakes_call
  by_cases h1 : f < 0
  · have d1 : decide (f < 0) = true := decide_eq_true h1
    clear h
    go_enter Try.func6, Try.ntmps6
    go_wp2_with (with_reducible refine (hwk _).mono ?_; rintro e z ⟨rfl, hb⟩)
    go_ret
    exact ⟨rfl, hb⟩
  · have d1 : decide (f < 0) = false := decide_eq_false h1
    by_cases h2 : 15 < f
    · have d2 : decide (15 < f) = true := decide_eq_true h2
      clear h
      go_enter Try.func6, Try.ntmps6
      go_wp2_with (with_reducible refine (hwk _).mono ?_; rintro e z ⟨rfl, hb⟩)
      go_ret
      exact ⟨rfl, hb⟩
    · have d2 : decide (15 < f) = false := decide_eq_false h2
      by_cases h3 : m < 1
      · have d3 : decide (m < 1) = true := decide_eq_true h3
        clear h
        go_enter Try.func6, Try.ntmps6
        go_wp2_with (with_reducible refine (hwk _).mono ?_; rintro e z ⟨rfl, hb⟩)
        go_ret
        exact ⟨rfl, hb⟩
      · have d3 : decide (m < 1) = false := decide_eq_false h3
        have d4 : decide (20 < m) = true := decide_eq_true (by omega)
        clear h
        go_enter Try.func6, Try.ntmps6
        go_wp2_with (with_reducible refine (hwk _).mono ?_; rintro e z ⟨rfl, hb⟩)
        go_ret
        exact ⟨rfl, hb⟩
theorem ways_call (f m : Int) (dn : Bool) (w : World) :
    Calls Try.prog 6 #[.int .i64 f, .int .i64 m, .bool dn] w fun e w' => e = .returned (.bool true) ∧ Below w.heap.size w w' := by
  by_cases h : 0 ≤ f ∧ f ≤ 15 ∧ 1 ≤ m ∧ m ≤ 20
  · exact ways_in f m dn ⟨h.1, h.2.1⟩ h.2.2 w
  · exact ways_out f m dn h w
end Go.Proofs.Ytckopdifjhjppaa
