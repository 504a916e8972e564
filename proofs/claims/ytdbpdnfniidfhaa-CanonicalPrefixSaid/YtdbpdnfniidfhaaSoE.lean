/- Package sort: breakPatterns. -/
import Derived.Test.YtdbpdnfniidfhaaSo
import Derived.Shelf.SlSortFunc.Xorshift
import Derived.Shelf.Lay
set_option linter.unusedVariables false
set_option linter.unusedSimpArgs false
namespace Go.Proofs.Ytdbpdnfniidfhaa
open Go.RowKit Go.Sort Go.Shelf

shelf_lay LaysGg.n36 Ggs 36 at Try as soX
shelf_lay LaysGg.n35 Ggs 35 at Try as soP
section
variable {α : Type} [Inhabited α] {lt : α → α → Bool} {g : Nat} {lb : Array Value} {sf : Nat} {sb : Array Value} {blk n : Nat} {I : Array α → World → Prop}

/-- The row is older than the block B: what is newer may change. -/
structure EnvB (lt : α → α → Bool) (g : Nat) (lb : Array Value) (sf : Nat) (sb : Array Value) (blk n : Nat) (I : Array α → World → Prop) (B : Nat) : Prop where
  env : Env lt g lb sf sb blk n I
  base : ∀ d w, I d w → B ≤ w.heap.size
  keepB : ∀ d w w', I d w → Ch (fun k => B ≤ k) w w' → I d w'
/-- What t rounds of breakPatterns make. -/
def bpS (a L M i0 : Nat) (d : Array α) : Nat → UInt64 × Array α
  | 0 => (UInt64.ofNat L, d)
  | t + 1 => breakStep a L M (bpS a L M i0 d t) (i0 + t)
theorem bp_eq (d : Array α) (a b L : Nat) (hL : L = b - a) (h8 : 8 ≤ L) : breakPatterns d a b = (bpS a L (1 <<< bitsLen L) (a + (L / 4) * 2 - 1) d 3).2 := by
  subst hL
  unfold breakPatterns
  rw [if_pos h8]
  rfl
theorem bpS_step (a L M i0 t : Nat) (d : Array α) (r : UInt64) (dk : Array α) (h : bpS a L M i0 d t = (r, dk)) (O : Nat) (hO : O = (xorNext r).toNat &&& (M - 1)) :
    bpS a L M i0 d (t + 1) = (xorNext r, swp dk (i0 + t) (a + (if L ≤ O then O - L else O))) := by
  rw [bpS, h, breakStep]
  simp only [ge_iff_le, ← hO]

set_option maxRecDepth 100000 in
set_option maxHeartbeats 2000000 in
theorem breakPatterns_call {B : Nat} (EB : EnvB lt g lb sf sb blk n I B) (a b : Nat) (d : Array α) (w : World) (hI : I d w) (h12 : 12 < b - a) (hb : b ≤ n) :
    Calls Try.prog 39 #[.agg #[.func (.func g) #[] lb, .func (.func sf) #[] sb], .int .i64 a, .int .i64 b] w fun e w' => e = .returned (.tuple #[]) ∧ On blk w w' ∧ I (breakPatterns d a b) w' := by
  have E := EB.env
  have hn := E.small
  obtain ⟨L, hL⟩ : ∃ L, L = b - a := ⟨_, rfl⟩
  have HG := Lib.hid (bp_eq d a b L hL (by omega))
  generalize breakPatterns d a b = R at HG ⊢
  obtain ⟨i0, hi0⟩ : ∃ i0, i0 = a + (L / 4) * 2 - 1 := ⟨_, rfl⟩
  rw [← hi0] at HG
  obtain ⟨M, hM⟩ : ∃ M : Nat, M = 1 <<< bitsLen L := ⟨_, rfl⟩
  have hM1 : 1 ≤ M := by rw [hM, Nat.one_shiftLeft]; exact Nat.two_pow_pos _
  have hM2 : M ≤ 2 * L := by rw [hM, Nat.one_shiftLeft]; exact two_pow_bitsLen_le (by omega)
  have hNP : ∀ w, Calls Try.prog 47 #[.int .i64 (L : Int)] w fun e w' => e = .returned (.int .u64 (M : Int)) ∧ w' = w := by rw [hM]; exact fun w => Any.nextPowerOfTwo soP L (by omega) w
  rw [← hM] at HG
  have HLL := Lib.hid hL
  have HII := Lib.hid hi0
  have hLn : L ≤ n := by omega
  have haL : a + L ≤ n := by omega
  have hL12 : 12 < L := by omega
  have hia : a ≤ i0 := by omega
  have hib : i0 + 3 ≤ n := by omega
  have hwl : IntKind.i64.wrap ((b : Int) - (a : Int)) = (b : Int) - (a : Int) := by rw [IntKind.wrap_i64]; omega
  clear hL hi0 hM
  go_enter Try.func39, Try.ntmps39
  go_upto_region 1 with fail
  go_cut [6] (fun s wx => s = .int .i64 L ∧ wx = w.alloc (.cells #[.func (.func g) #[] lb, .func (.func sf) #[] sb] 64))
  case first =>
    go_wp2
    go_meet
    exact ⟨by congr 1; have := HLL.out; omega, rfl⟩
  case rest =>
    obtain ⟨rfl, rfl⟩ := hcut
    have hd8 : decide ((8 : Int) ≤ (L : Int)) = true := decide_eq_true (by omega)
    have hS0 := (St.start E hI (.func (.func g) #[] lb) (.func (.func sf) #[] sb) 64).sm E ((Ch.refl _ _).alloc (.cells #[.int .u64 L] 79))
    have hR0 := heap_alloc2_new w (.cells #[.func (.func g) #[] lb, .func (.func sf) #[] sb] 64) (.cells #[.int .u64 L] 79)
    go_wp2_with fail
    refine (hNP _).mono ?_
    rintro e w1 ⟨rfl, rfl⟩
    generalize (w.alloc (.cells #[.func (.func g) #[] lb, .func (.func sf) #[] sb] 64)).alloc (.cells #[.int .u64 L] 79) = w2 at hS0 hR0 ⊢
    have HS0 := Lib.hid hS0
    have HR0 := Lib.hid hR0
    obtain ⟨q, hq⟩ : ∃ q, q = L / 4 := ⟨_, rfl⟩
    have hlq : (L : Int) / 4 = (q : Int) := by omega
    have hiq : i0 + 1 = a + q * 2 := by have := HII.out; omega
    have HIQ := Lib.hid hiq
    have hqn : q ≤ n := by omega
    have hw1 : IntKind.i64.wrap ((q : Int) * 2) = (q : Int) * 2 := by rw [IntKind.wrap_i64]; omega
    have hw2 : IntKind.i64.wrap ((a : Int) + (q : Int) * 2) = (a : Int) + (q : Int) * 2 := by rw [IntKind.wrap_i64]; omega
    have hw3 : IntKind.i64.wrap ((a : Int) + (q : Int) * 2 - 1) = (a : Int) + (q : Int) * 2 - 1 := by rw [IntKind.wrap_i64]; omega
    have hw4 : IntKind.i64.wrap ((a : Int) + (q : Int) * 2 + 1) = (a : Int) + (q : Int) * 2 + 1 := by rw [IntKind.wrap_i64]; omega
    have hBw := EB.base d w hI
    have hbk := fun (e : w.heap.size + 1 = blk) => (show False from by have := HS0.out.lt; omega)
    clear hS0 hR0 hq hNP hiq
    go_upto_region 5 with fail
    go_cut [9] (fun s wx => s = .int .i64 i0 ∧ wx = w2)
    case first =>
      go_wp2
      go_meet
      exact ⟨by congr 1; have := HIQ.out; omega, rfl⟩
    case rest =>
      obtain ⟨rfl, rfl⟩ := hcut
      go_wp2_with fail
      go_loopw [9] (fun vi wr => ∃ (x : Nat) (r : UInt64) (dk : Array α), vi = .int .i64 x ∧ i0 ≤ x ∧ x ≤ i0 + 3 ∧ bpS a L M i0 d (x - i0) = (r, dk) ∧ St I blk (.func (.func g) #[] lb) (.func (.func sf) #[] sb) w dk wr ∧ wr.heap[w.heap.size + 1]? = some (.cells #[.int .u64 (r.toNat : Int)] 79 (0, 0))) (fun vi _ => i0 + 3 - (intOf vi).toNat)
      case atStart =>
        refine ⟨i0, UInt64.ofNat L, d, rfl, Nat.le_refl _, by omega, by rw [Nat.sub_self]; rfl, HS0.out, ?_⟩
        rw [show (UInt64.ofNat L).toNat = L from by simp; omega]
        exact HR0.out
      case round =>
        obtain ⟨x, r, dk, rfl, hx1, hx2, hst, hS1, hR1⟩ := hrel
        have HB1 := Lib.hid hst
        have HS1 := Lib.hid hS1
        by_cases hx3 : x < i0 + 3
        · have hle : decide ((x : Int) ≤ (a : Int) + (q : Int) * 2 + 1) = true := decide_eq_true (by have := HIQ.out; omega)
          have cR : wr.cell? ⟨w.heap.size + 1, 0, none⟩ = some (.int .u64 (r.toNat : Int)) := by simp [World.cell?, hR1]
          have fR : wr.frozen? ⟨w.heap.size + 1, 0, none⟩ = false := by simp [World.frozen?, hR1]
          obtain ⟨R', hR'⟩ : ∃ R' : Nat, R' = xorNextN r.toNat := ⟨_, rfl⟩
          have lR' : R' < 18446744073709551616 := by rw [hR']; exact xorNextN_lt _ r.toNat_lt
          have hNext : Calls Try.prog 48 #[.pointer (some ⟨w.heap.size + 1, 0, none⟩)] wr fun e w' => e = .returned (.int .u64 (R' : Int)) ∧ w' = (wr.setCell ⟨w.heap.size + 1, 0, none⟩ (.int .u64 (R' : Int))).drewN 3 := by
            rw [hR']; exact Any.xorshift_Next soX _ _ _ r.toNat_lt wr cR fR
          have e1 : R' = (xorNext r).toNat := by rw [hR', xorNext_toNat]
          obtain ⟨O, hO⟩ : ∃ O : Nat, O = R' &&& (M - 1) := ⟨_, rfl⟩
          have lO : O ≤ M - 1 := by rw [hO]; exact Nat.and_le_right
          have eAnd : bits .and .u64 (R' : Int) ((M : Int) - 1) = (O : Int) := by
            rw [show ((M : Int) - 1) = ((M - 1 : Nat) : Int) by omega, bits_and_u64_nat _ _ lR' (by omega), hO]
          have HST := Lib.hid (bpS_step a L M i0 (x - i0) d r dk hst O (by rw [hO, e1]))
          rw [show i0 + (x - i0) = x by omega] at HST
          have hch : Ch (fun k => B ≤ k) wr ((wr.setCell ⟨w.heap.size + 1, 0, none⟩ (.int .u64 (R' : Int))).drewN 3) := ((Ch.refl _ wr).setCell ⟨w.heap.size + 1, 0, none⟩ _ (.inl (by show B ≤ w.heap.size + 1; omega))).drewN 3
          have hch2 : Ch (fun k => k = w.heap.size + 1) wr ((wr.setCell ⟨w.heap.size + 1, 0, none⟩ (.int .u64 (R' : Int))).drewN 3) := ((Ch.refl (fun k => k = w.heap.size + 1) wr).setCell ⟨w.heap.size + 1, 0, none⟩ _ (.inl rfl)).drewN 3
          have HS3 := Lib.hid (show St I blk (.func (.func g) #[] lb) (.func (.func sf) #[] sb) w dk ((wr.setCell ⟨w.heap.size + 1, 0, none⟩ (.int .u64 (R' : Int))).drewN 3) from
            ⟨EB.keepB _ _ _ hS1.inv hch, hch2.cell hS1.c0 (by show ¬ w.heap.size = w.heap.size + 1; omega), hch2.cell hS1.c1 (by show ¬ w.heap.size = w.heap.size + 1; omega), Ch.trans hS1.on hch2 (fun k hk e => by omega), hS1.lt⟩)
          have HR3 := Lib.hid (show ((wr.setCell ⟨w.heap.size + 1, 0, none⟩ (.int .u64 (R' : Int))).drewN 3).heap[w.heap.size + 1]? = some (.cells #[.int .u64 ((xorNext r).toNat : Int)] 79 (0, 0)) from by
            rw [← e1]
            show (wr.setCell ⟨w.heap.size + 1, 0, none⟩ (.int .u64 (R' : Int))).heap[w.heap.size + 1]? = _
            simp [World.setCell, Array.getElem?_modify, hR1])
          clear hst hS1 hR1 cR fR hR' e1 hO hch hch2
          generalize (wr.setCell ⟨w.heap.size + 1, 0, none⟩ (.int .u64 (R' : Int))).drewN 3 = w3 at hNext HS3 HR3
          by_cases hLO : L ≤ O
          · have hLOd : decide ((L : Int) ≤ (O : Int)) = true := decide_eq_true (by omega)
            have hwOL : IntKind.i64.wrap ((O : Int) - (L : Int)) = (O : Int) - (L : Int) := by rw [IntKind.wrap_i64]; omega
            rw [if_pos hLO] at HST
            obtain ⟨w6, hsw, hon, hI3⟩ := E.swap dk _ x (a + (O - L)) (by omega) HS3.out.inv (by omega) (by omega)
            rw [show ((a + (O - L) : Nat) : Int) = (a : Int) + ((O : Int) - (L : Int)) by omega] at hsw
            have c1 := HS3.out.c1
            have HS4 := Lib.hid (HS3.out.sw hon hI3)
            have HR4 := Lib.hid (Ch.heap hon HR3.out (fun e => hbk e))
            have hwO : IntKind.i64.wrap ((a : Int) + ((O : Int) - (L : Int))) = (a : Int) + ((O : Int) - (L : Int)) := by rw [IntKind.wrap_i64]; omega
            clear hon hI3
            go_wp2_with fail
            refine hNext.mono ?_
            rintro e w5 ⟨rfl, rfl⟩
            go_wp2_with fail
            exact ⟨⟨x + 1, _, _, by go_num, by omega, by omega, by rw [show x + 1 - i0 = (x - i0) + 1 by omega]; exact HST.out, HS4.out, HR4.out⟩, by simp [intOf]; omega⟩
          · have hLOd : decide ((L : Int) ≤ (O : Int)) = false := decide_eq_false (by omega)
            rw [if_neg hLO] at HST
            obtain ⟨w6, hsw, hon, hI3⟩ := E.swap dk _ x (a + O) (by omega) HS3.out.inv (by omega) (by omega)
            rw [show ((a + O : Nat) : Int) = (a : Int) + (O : Int) by omega] at hsw
            have c1 := HS3.out.c1
            have HS4 := Lib.hid (HS3.out.sw hon hI3)
            have HR4 := Lib.hid (Ch.heap hon HR3.out (fun e => hbk e))
            have hwO : IntKind.i64.wrap ((a : Int) + (O : Int)) = (a : Int) + (O : Int) := by rw [IntKind.wrap_i64]; omega
            clear hon hI3
            go_wp2_with fail
            refine hNext.mono ?_
            rintro e w5 ⟨rfl, rfl⟩
            go_wp2_with fail
            exact ⟨⟨x + 1, _, _, by go_num, by omega, by omega, by rw [show x + 1 - i0 = (x - i0) + 1 by omega]; exact HST.out, HS4.out, HR4.out⟩, by simp [intOf]; omega⟩
        · have hle : decide ((x : Int) ≤ (a : Int) + (q : Int) * 2 + 1) = false := decide_eq_false (by have := HIQ.out; omega)
          have hrd : R = dk := by rw [HG.out, ← show x - i0 = 3 by omega, hst]
          subst hrd
          clear hst hS1 hR1
          go_wp2_with fail
          go_end0
          exact ⟨rfl, HS1.out.on, HS1.out.inv⟩
end
end Go.Proofs.Ytdbpdnfniidfhaa
