/- Package prefixenc: bitAt, longer, symbolsOf. -/
import Derived.Test.YtnpohkaicfcidaaPeK
import Derived.Maps.OwnSet
import Derived.BigQuiet
import Derived.Handy
import Derived.Test.YtnpohkaicfcidaaFrm2
set_option linter.unusedVariables false
set_option linter.unusedSimpArgs false
namespace Go.Proofs.Ytnpohkaicfcidaa
open Go.RowKit Go.Maps

set_option maxHeartbeats 400000 in
theorem bitAt_call (w : World) (sp : Option Addr) (n c : Nat) (l : List Int) (hl : l.length = n) (hS : Src w .u8 sp l) (hby : Byts l) (i : Nat) (hi : i < 8 * n) (h6 : n ≤ 1000000) :
    Calls Try.prog 29 #[.slice sp n c, .int .i64 i] w fun x w' => x = .returned (.int .u32 ((bitsB l).getD i 0)) ∧ w = w' := by
  have hv := bitsB_getD l i (by omega)
  rcases hS with rfl | ⟨g, o, rfl, hc⟩
  · simp at hl
    omega
  have hil : i / 8 < l.length := by omega
  have hci := hc (i / 8) hil
  have hxb := hby _ (List.getElem_mem hil)
  rw [getD_in _ _ hil] at hci hv
  obtain ⟨x, hx⟩ : ∃ x, x = l[i / 8] := ⟨_, rfl⟩
  rw [← hx] at hci hxb hv
  obtain ⟨q, hq⟩ : ∃ q, q = i / 8 := ⟨_, rfl⟩
  obtain ⟨r, hr⟩ : ∃ r, r = i % 8 := ⟨_, rfl⟩
  rw [← hq] at hci
  rw [← hr] at hv
  have hqn : q < n := by omega
  have hr7 : r ≤ 7 := by omega
  have eq1 : (i : Int) / 8 = (q : Int) := by omega
  have er1 : (i : Int) % 8 = (r : Int) := by omega
  obtain ⟨hx0, hx1⟩ := hxb
  have HV := Lib.hid hv
  clear hv hc hil hx hq hr hby hl
  go_enter Try.func29, Try.ntmps29
  go_wp2_with fail
  have hp : (2 : Int) ^ (7 - r) = ((2 ^ (7 - r) : Nat) : Int) := by simp
  have hp0 := Nat.two_pow_pos (7 - r)
  rw [hp]
  have hd0 : 0 ≤ x / ((2 ^ (7 - r) : Nat) : Int) := Int.ediv_nonneg hx0 (by omega)
  have hd1 : x / ((2 ^ (7 - r) : Nat) : Int) ≤ x := Int.ediv_le_self _ hx0
  rw [and1_u32 _ hd0 (by omega)]
  go_ret
  exact ⟨by rw [HV.out]; rfl, rfl⟩
theorem or_bit32 (v x : Int) (hv : 0 ≤ v) (hv' : v < 2147483648) (hx : x = 0 ∨ x = 1) : bits .or .u32 (v * 2) x = 2 * v + x := by
  obtain ⟨V, rfl⟩ := Int.eq_ofNat_of_zero_le hv
  obtain ⟨X, rfl⟩ : ∃ X : Nat, x = (X : Int) := ⟨x.toNat, by omega⟩
  have h3 := Nat.two_pow_add_eq_or_of_lt (show X < 2 ^ 1 by omega) V
  rw [show ((V : Int) * 2) = ((2 ^ 1 * V : Nat) : Int) by omega, u32_or_nat (2 ^ 1 * V) X (by omega) (by omega), ← h3]
  omega

set_option maxHeartbeats 400000 in
theorem longer_call (c n b : Int) (hc : 0 ≤ c ∧ c < 1000000) (hn : 0 ≤ n ∧ n ≤ 100) (hb : b = 0 ∨ b = 1) (w : World) :
    Calls Try.prog 28 #[.agg #[.int .u32 c, .int .i64 n], .int .u32 b] w fun e w' => e = .returned (.agg #[.int .u32 (2 * c + b), .int .i64 (n + 1)]) ∧ Below w.heap.size w w' := by
  have hob := or_bit32 c b hc.1 (by omega) hb
  have hw1 : IntKind.i64.wrap (n + 1) = n + 1 := IntWalk.i64_in _ (by omega)
  have hw2 : IntKind.u32.wrap (c * 2) = c * 2 := IntWalk.u32_in _ (by omega)
  go_enter Try.func28, Try.ntmps28
  go_wp2_with fail
  exact bodyPost_ret (v := .agg #[.int .u32 (2 * c + b), .int .i64 (n + 1)]) (by simp [results, Try.results28, go_sem]) rfl ⟨rfl, ((Below.refl _ _).alloc (Nat.le_refl _) _).alloc (by simp) _⟩

theorem wordU : Try.prog.underlying 57 = some (.map 60 3) := Try.underlying57
theorem word_wide : (match Try.prog.underlying 60 with | some (.array _ _) | some (.struct _) => true | _ => false) = true := by rw [Try.underlying60]
theorem word_keyAt : Try.prog.keyTypeAt 2 60 = true := by kernel_rfl
theorem word_tiled : Try.prog.tiled 2 60 = true := by kernel_rfl
theorem wordK : Keyed Try.prog 60 := Keyed.of_law (deep_law (m := 2) (by omega) word_keyAt word_tiled word_wide)
/-- A code with its length as a key. -/
def wordV (c m : Int) : Value := .agg #[.int .u32 c, .int .i64 m]
theorem word_key (c m : Int) (hc : (Lit.int .u32 c).wf = true) (hm : (Lit.int .i64 m).wf = true) : ∃ lx, keyOf Try.prog 60 (wordV c m) = some lx := by
  have hk : Try.prog.keyType 60 = true := by kernel_rfl
  have hcl : Try.prog.cellsOf 60 = 2 := by kernel_rfl
  have hi : Try.prog.cellsOf 3 = 1 := by kernel_rfl
  have hu : Try.prog.cellsOf 41 = 1 := by kernel_rfl
  have ht : ∃ D, Try.prog.types.size + 1 = D + 2 := by
    have h1 : decide (1 < Try.prog.types.size) = true := by kernel_rfl
    have h2 := of_decide_eq_true h1
    exact ⟨Try.prog.types.size - 1, by omega⟩
  obtain ⟨D, hD⟩ := ht
  refine ⟨.string (keyBytes [.int .u32 c, .int .i64 m]), ?_⟩
  have hf : (wordV c m).formed Try.prog 60 = true := by simp [wordV, Value.formed, Try.underlying60, hcl]
  unfold keyOf
  simp only [Try.underlying60, hk, hf, Bool.and_self, if_true]
  rw [hD]
  unfold Program.keyLits
  simp only [Try.underlying60, wordV, Value.cells]
  unfold Program.keyLits
  simp [hi, hu, hcl, u32U, intU, hc, hm]
/-- Block b is the map of the first k symbols by their codes. -/
def MapS (l : List Int) (b k : Nat) (w : World) : Prop := ∃ D : DataW Unit, w.ownsMap Try.prog 60 (plainElem Try.prog 3) b k D ∧ IsMap D ∧
  ∀ c m kl, keyOf Try.prog 60 (wordV c m) = some kl → has D kl = (fndL l c m k).isSome ∧ D.atKey kl (.lit (.int .i64 0)) = .lit (.int .i64 (((fndL l c m k).getD 0 : Nat) : Int))
theorem MapS.new (l : List Int) (w : World) : MapS l w.heap.size 0 (w.alloc (.map #[] 0)) :=
  ⟨.map [], World.ownsMap_made w _ _ _, isMap_empty, fun c m kl h => ⟨rfl, rfl⟩⟩
theorem MapS.kept {l : List Int} {b k : Nat} {w w' : World} (h : MapS l b k w) (hb : Below w.heap.size w w') : MapS l b k w' := by
  obtain ⟨D, ⟨es, clock, h1, h2⟩, h3⟩ := h
  exact ⟨D, ⟨es, clock, heap_on hb h1, h2⟩, h3⟩
theorem MapS.skip {l : List Int} {b k : Nat} {w : World} (h : MapS l b k w) (h0 : ¬ 0 < l.getD k 0) : MapS l b (k + 1) w := by
  obtain ⟨D, h1, h2, h3⟩ := h
  refine ⟨D, h1.mono (by omega), h2, fun c m kl hk => ?_⟩
  rw [fndL_no l c m k h0]
  exact h3 c m kl hk
theorem MapS.put {l : List Int} {b k : Nat} {w' : World} {D : DataW Unit} (h2 : IsMap D)
    (h3 : ∀ c m kl, keyOf Try.prog 60 (wordV c m) = some kl → has D kl = (fndL l c m k).isSome ∧ D.atKey kl (.lit (.int .i64 0)) = .lit (.int .i64 (((fndL l c m k).getD 0 : Nat) : Int)))
    {kl : Lit} (hk : keyOf Try.prog 60 (wordV (cdL l k) (l.getD k 0)) = some kl) (h0 : 0 < l.getD k 0)
    (h1 : w'.ownsMap Try.prog 60 (plainElem Try.prog 3) b (k + 1) (D.put kl (.lit (.int .i64 (k : Int))))) : MapS l b (k + 1) w' := by
  refine ⟨_, h1, h2.put _ _, fun c m kl' hk' => ?_⟩
  by_cases e : l.getD k 0 = m ∧ cdL l k = c
  · obtain ⟨rfl, rfl⟩ := e
    rw [hk] at hk'
    injection hk' with hk'
    subst hk'
    rw [fndL_yes l k h0, has_put_same h2 (wordK.key hk), atKey_put_same h2 (wordK.key hk)]
    exact ⟨rfl, rfl⟩
  · have hne : kl' ≠ kl := fun e2 => by
      subst e2
      have := wordK.inj hk hk'
      unfold wordV at this
      injection this with this
      have e3 := congrArg Array.toList this
      simp at e3
      exact e ⟨e3.2, e3.1⟩
    rw [fndL_other l c m k e, has_put_other hne, atKey_put_other hne]
    exact h3 c m kl' hk'


set_option maxRecDepth 100000 in
set_option maxHeartbeats 1000000 in
theorem symbols_call (l : List Int) (hv : VL l) (w : World) :
    Calls Try.prog 27 #[.agg (lg l), .agg (cl (codT l 258))] w fun e w' => ∃ b, e = .returned (.map (some b)) ∧ MapS l b 258 w' ∧ Below w.heap.size w w' := by
  have h := hv.lng
  have hmk : ∀ w : World, (Instr.makeMap 57 none).run Try.prog w = .ok (.map (some w.heap.size)) (w.alloc (.map #[] 0)) := fun w => by
    simp [Instr.makeMap, run_underlying wordU, Result.andThen]
  have hcc := codT_cds hv 258
  have HR := Lib.hid (show codT l 258 = codT l 258 from rfl)
  obtain ⟨c, hc⟩ : ∃ c, c = codT l 258 := ⟨_, rfl⟩
  rw [← hc] at hcc ⊢
  replace HR := Lib.hid (hc)
  clear hc
  go_enter Try.func27, Try.ntmps27
  go_upto_region 1 with fail
  have hg := heap_alloc2_old w (.cells (lg l) 23) (.cells (cl c) 54)
  have hg2 := heap_alloc2_new w (.cells (lg l) 23) (.cells (cl c) 54)
  have hb : Below w.heap.size w ((w.alloc (.cells (lg l) 23)).alloc (.cells (cl c) 54)) := ((Below.refl _ _).alloc (Nat.le_refl _) _).alloc (by simp) _
  generalize (w.alloc (.cells (lg l) 23)).alloc (.cells (cl c) 54) = w1 at hg hg2 hb ⊢
  have hgl := (Array.getElem?_eq_some_iff.1 hg2).1
  go_upto_region 2 with fail
  have hM := MapS.new l w1
  have hb1 := (Below.refl w1.heap.size w1).alloc (Nat.le_refl _) (.map #[] 0)
  have hg3 := heap_on hb1 hg
  have hc3 := heap_on hb1 hg2
  obtain ⟨b, hbe⟩ : ∃ b, b = w1.heap.size := ⟨_, rfl⟩
  rw [← hbe] at hM hgl ⊢
  have HB3 := Lib.hid (hb.trans (hb1.mono hb.size))
  generalize w1.alloc (.map #[] 0) = w3 at hM hg3 hc3 HB3 ⊢
  obtain ⟨g4, hg4⟩ : ∃ g4, g4 = w.heap.size + 1 := ⟨_, rfl⟩
  rw [← hg4] at hc3 hgl ⊢
  have HBE := Lib.hid (show w.heap.size ≤ b by omega)
  have HZ := Lib.hid (show g4 < b from hgl)
  have HM3 := Lib.hid hM
  have HC3 := Lib.hid hc3
  clear hM hc3 hb1 hb hg hg2 hmk hbe hg4 hgl
  go_wp2_with (refine wpList_load_row rfl 23 _ rfl w.heap.size rfl 23 (lg l) (0, 0) _ hg3 Try.underlying23 rfl (lngIk h) ?_)
  go_loopw [10] (fun i wr => ∃ k : Nat, k ≤ 258 ∧ i = .int .i64 k ∧ MapS l b k wr ∧ wr.heap[g4]? = some (.cells (cl c) 54 (0, 0)) ∧ Below w.heap.size w wr) (fun i _ => 258 - (intOf i).toNat)
  case atStart => exact ⟨0, by omega, rfl, HM3.out, HC3.out, HB3.out⟩
  case round =>
    obtain ⟨k, hk, rfl, hm, hc, hb⟩ := hrel
    have HMr := Lib.hid hm
    have HCr := Lib.hid hc
    have HBr := Lib.hid hb
    clear hm hb
    by_cases hlt : k < 258
    · have hix := fun w => run_index_lng w h k hlt
      have hbd := h.bd k
      have HSK := Lib.hid (fun (W : World) (hW : MapS l b k W) (h0 : ¬ 0 < l.getD k 0) => hW.skip h0)
      by_cases h0 : 0 < l.getD k 0
      · have hck := cl_cell hc hcc k hlt
        have hcv : c.getD k 0 = cdL l k := by
          rw [HR.out, codT, row258_get _ k hlt, if_pos ⟨hlt, h0⟩]
        rw [hcv] at hck
        obtain ⟨D, hown, hD, h3⟩ := HMr.out
        have hwc : (Lit.int .u32 (cdL l k)).wf = true := by have := hv.cdL k hlt; exact WalkArith.wf_u32 ⟨by omega, by omega⟩
        have hwm : (Lit.int .i64 (l.getD k 0)).wf = true := WalkArith.wf_i64 ⟨by omega, by omega⟩
        obtain ⟨kl, hkl⟩ := word_key (cdL l k) (l.getD k 0) hwc hwm
        have HPUT := Lib.hid (fun (W : World) (h1 : W.ownsMap Try.prog 60 (plainElem Try.prog 3) b (k + 1) (D.put kl (.lit (.int .i64 (k : Int))))) => MapS.put (w' := W) hD h3 hkl h0 h1)
        have HKL : RowKit.Hid (keyOf Try.prog 60 (.agg #[.int .u32 (cdL l k), .int .i64 (l.getD k 0)]) = some kl) := hkl
        have hpl : plainElem (H := Unit) Try.prog 3 (.int .i64 (k : Int)) = some (.lit (.int .i64 (k : Int)), []) := plainElem_int intU (WalkArith.wf_i64 ⟨by omega, by omega⟩)
        have HPL := Lib.hid hpl
        have HOWN := Lib.hid hown
        have hcd := hv.cdL k hlt
        generalize l.getD k 0 = V at hix hbd HKL h0
        generalize cdL l k = X at hck HKL hcd
        obtain ⟨v, rfl⟩ : ∃ v : Nat, V = v := ⟨V.toNat, by omega⟩
        clear hc hcv hwc hwm hkl h3 hpl hown HSK hD
        go_wp2_with (refine wpList_mapUpdate_own _ rfl _ _ _ 57 rfl 60 3 wordK wordU _ b k D rfl HOWN.out (by unfold maxLen; omega) (.agg #[.int .u32 X, .int .i64 (v : Int)]) (.int .i64 (k : Int)) kl rfl rfl HKL.out (.lit (.int .i64 (k : Int))) [] HPL.out ?_; intro w5 hown5 hgr5)
        have hZ := HZ.out
        have hBE := HBE.out
        exact ⟨⟨k + 1, by omega, by go_num, HPUT.out _ hown5, (hgr5.block g4 (Array.getElem?_eq_some_iff.1 HCr.out).1 (by intro e; injection e with e; omega)).trans HCr.out, HBr.out.grown hgr5 HBr.out.size (fun g e => by injection e with e; omega)⟩, by simp [intOf]; omega⟩
      · have HST := Lib.hid (HSK.out _ HMr.out h0)
        generalize l.getD k 0 = V at hix hbd h0
        clear HSK hc
        go_wp2_with fail
        exact ⟨⟨k + 1, by omega, by go_num, HST.out, HCr.out, HBr.out⟩, by simp [intOf]; omega⟩
    · obtain rfl : k = 258 := by omega
      clear hc
      go_wp2_with fail
      go_ret
      exact ⟨b, rfl, HMr.out, HBr.out⟩

end Go.Proofs.Ytnpohkaicfcidaa
