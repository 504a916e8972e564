/- Laws over any program: rows of integers in memory (copy, clear, make), and what a step leaves unchanged. -/
import Derived.WalkKit
import Derived.WalkSpells
import Derived.WalkLawsBesides
import Derived.BigQuiet
import Derived.BigCall
import Derived.Deep.QuietTactic
import Derived.Lib.Hide
import Derived.RegionTactic
import Derived.ChangeAlike
import Derived.Lib.SliceRun
import Derived.Laws.CopyOwn
import Derived.OpenShut
set_option linter.unusedVariables false
set_option linter.unusedSimpArgs false
namespace Go.Proofs.Ytaemmeofchonaaa
open Go.RowKit

/-- A slice from its beginning on keeps its address. -/
@[go_sem ↓] theorem sliced_zero (a : Option Addr) (h m s : Nat) : sliced a 0 h m s = .slice a h m := by
  unfold sliced
  cases a <;> simp [Addr.add]

/-- A row of integers as cells. -/
def icells (k : IntKind) (l : List Int) : Array Value := (l.map (Value.int k)).toArray
theorem icells_size (k : IntKind) (l : List Int) : (icells k l).size = l.length := by simp [icells]
theorem icells_get (k : IntKind) (l : List Int) (i : Nat) : (icells k l)[i]? = l[i]?.map (Value.int k) := by simp [icells]

theorem cell_icells {w : World} {g : Nat} {k : IntKind} {l : List Int} {t : TypeId} {fr : Nat × Nat} (hg : w.heap[g]? = some (.cells (icells k l) t fr)) (i : Nat) (hi : i < l.length) :
    w.cell? ⟨g, i, none⟩ = some (.int k (l.getD i 0)) := by
  simp [World.cell?, hg, icells, hi]
theorem frozen_icells {w : World} {g : Nat} {c : Array Value} {t : TypeId} (hg : w.heap[g]? = some (.cells c t (0, 0))) (i : Nat) : w.frozen? ⟨g, i, none⟩ = false := by
  simp [World.frozen?, hg]

theorem splice_full {α : Type} (L cs : List α) (h : cs.length = L.length) : splice L 0 cs = cs := by
  simp [splice, h]
theorem splice_length {α : Type} (L : List α) (o : Nat) (cs : List α) (h : o + cs.length ≤ L.length) : (splice L o cs).length = L.length := by
  simp [splice]; omega
theorem splice_getElem? {α : Type} (L : List α) (o : Nat) (cs : List α) (h : o + cs.length ≤ L.length) (i : Nat) :
    (splice L o cs)[i]? = if o ≤ i ∧ i < o + cs.length then cs[i - o]? else L[i]? := by
  unfold splice
  by_cases h1 : i < o
  · rw [List.getElem?_append_left (by simp; omega), List.getElem?_take, if_pos h1, if_neg (by omega)]
  · rw [List.getElem?_append_right (by simp; omega), List.length_take, Nat.min_eq_left (by omega)]
    by_cases h2 : i < o + cs.length
    · rw [List.getElem?_append_left (by omega), if_pos (by omega)]
    · rw [List.getElem?_append_right (by omega), if_neg (by omega), List.getElem?_drop]
      congr 1
      omega

/-- A slice's elements, as integers in memory. -/
def Src (w : World) (k : IntKind) (sp : Option Addr) (l : List Int) : Prop := l = [] ∨ ∃ g o, sp = some ⟨g, o, none⟩ ∧ ∀ j, j < l.length → w.cell? ⟨g, o + j, none⟩ = some (.int k (l.getD j 0))
theorem add_lit (g o j : Nat) : (⟨g, o, none⟩ : Addr).add j = ⟨g, o + j, none⟩ := by by_cases hj0 : j = 0 <;> simp [Addr.add, hj0]
theorem Src.nil (w : World) (k : IntKind) (sp : Option Addr) : Src w k sp [] := .inl rfl
theorem Src.row {w : World} {k : IntKind} {g o : Nat} {l : List Int} {t : TypeId} {fr : Nat × Nat} (hg : w.heap[g]? = some (.cells (icells k l) t fr)) (n : Nat) (h : o + n ≤ l.length) : Src w k (some ⟨g, o, none⟩) ((l.drop o).take n) := by
  refine .inr ⟨g, o, rfl, fun j hj => ?_⟩
  have hj' : j < n := by simp at hj; omega
  rw [cell_icells hg _ (by omega)]
  simp [List.getElem?_take, hj']
theorem Src.whole {w : World} {k : IntKind} {g : Nat} {l : List Int} {t : TypeId} {fr : Nat × Nat} (hg : w.heap[g]? = some (.cells (icells k l) t fr)) : Src w k (some ⟨g, 0, none⟩) l := by
  have := Src.row (o := 0) hg l.length (by omega)
  simpa using this
theorem Src.below {w w' : World} {k : IntKind} {sp : Option Addr} {l : List Int} (h : Src w k sp l) (hb : Below w.heap.size w w') : Src w' k sp l := by
  rcases h with h | ⟨g, o, hx, hc⟩
  · exact .inl h
  · exact .inr ⟨g, o, hx, fun j hj => (hb.cell (World.block_lt_of_cell? w _ (hc j hj))).trans (hc j hj)⟩
theorem Src.take {w : World} {k : IntKind} {sp : Option Addr} {l : List Int} (h : Src w k sp l) (n : Nat) : Src w k sp (l.take n) := by
  rcases h with rfl | ⟨g, o, hx, hc⟩
  · exact .inl (by simp)
  · refine .inr ⟨g, o, hx, fun j hj => ?_⟩
    have h1 : j < n ∧ j < l.length := by simp at hj; omega
    rw [hc j h1.2]
    simp [List.getElem?_take, h1.1]
/-- A slice of integers that came in, as the proof's shell has it. -/
def IsRow (k : IntKind) (w : World) (a : Option Addr) (len cap : Nat) (zs : List Int) : Prop :=
  (a = none ∧ len = 0 ∧ cap = 0 ∧ zs = []) ∨
  ∃ x, a = some x ∧ len ≤ cap ∧ cap ≤ maxLen ∧ zs.length = cap ∧ (∀ i, i < zs.length → w.cell? (x.add i) = some (.int k (zs.getD i 0))) ∧ ∀ n ∈ zs, (Lit.int k n).wf = true
theorem IsRow.src {k : IntKind} {w : World} {a : Option Addr} {len cap : Nat} {zs : List Int} (h : IsRow k w a len cap zs) :
    (zs.take len).length = len ∧ Src w k a (zs.take len) ∧ (∀ n ∈ zs.take len, (Lit.int k n).wf = true) ∧ len ≤ 9223372036854775807 ∧ len ≤ cap := by
  rcases h with ⟨rfl, rfl, rfl, rfl⟩ | ⟨x, rfl, h1, h2, h3, h4, h5⟩
  · exact ⟨rfl, .inl rfl, by simp, by omega, by omega⟩
  · have hl : (zs.take len).length = len := by simp; omega
    refine ⟨hl, ?_, fun n hn => h5 n (List.mem_of_mem_take hn), by unfold maxLen at h2; omega, h1⟩
    by_cases h0 : len = 0
    · exact .inl (by rw [h0]; rfl)
    · have hc := h4 0 (by omega)
      obtain ⟨g, o, s⟩ := x
      have hs : s = none := by
        have e : (⟨g, o, s⟩ : Addr).add 0 = ⟨g, o, s⟩ := by simp [Addr.add]
        rw [e] at hc
        cases s with
        | none => rfl
        | some n =>
          simp only [World.cell?] at hc
          split at hc <;> simp at hc
      subst hs
      refine .inr ⟨g, o, rfl, fun j hj => ?_⟩
      rw [hl] at hj
      have := h4 j (by omega)
      rw [add_lit] at this
      rw [this]
      simp [List.getElem?_take, hj]
theorem Byts.of_wf {l : List Int} (h : ∀ n ∈ l, (Lit.int .u8 n).wf = true) : ∀ x ∈ l, 0 ≤ x ∧ x ≤ 255 := fun x hx => bounds_u8 (h x hx)

section
variable {P : Program}

/-- One operation that yields a value, its run said by the caller. -/
theorem wpList_ran {ops : Array Oper} {rest : List Oper} {o : Oper} {a : Act} {w : World} {Q : Exit → Act → World → Prop} (hg : o.guard = none)
    (v : Value) (w' : World) (hrun : (execOp a.eval o).run P w = .ok (.value v) w')
    (h : wpList P ops Q rest (a.put o.dst v) w') : wpList P ops Q (o :: rest) a w := by
  refine wpList_plain hg fun K hK => ?_
  unfold Oper.wp
  rw [hrun, Oper.upon_value]
  exact hK _ _ h

theorem setRow_grown (w : World) (g : Nat) (cs : Array Value) : w.grownBy (w.setRow g cs) (some g) :=
  ⟨rfl, rfl, rfl, by simp [World.setRow], fun k _ hk => setRow_other w g k cs (fun e => hk (by rw [e]))⟩
theorem grownBy_refl (w : World) (r : Option Nat) : w.grownBy w r := ⟨rfl, rfl, rfl, Nat.le_refl _, fun _ _ _ => rfl⟩

theorem map_splice (k : IntKind) (cur cs : List Int) (off : Nat) : (splice cur off cs).map (Value.int k) = splice (cur.map (Value.int k)) off (cs.map (Value.int k)) := by
  simp [splice, List.map_take, List.map_drop]

/-- The builtin copy into a row of integers; n integers are copied. -/
theorem run_copyI (w : World) (dT sT ty elem : TypeId) (hu : P.underlying dT = some (.slice elem)) (hsz : (P.info? elem).map (·.size) = some 1)
    (dp sp : Option Addr) (dLen dCap sLen sCap : Nat)
    (k : IntKind) (g off : Nat) (cur : List Int) (t : TypeId) (hg : w.heap[g]? = some (.cells (icells k cur) t (0, 0)))
    (l : List Int) (hl : l.length = sLen) (hs : Src w k sp l) (n : Nat) (hn : n = min sLen dLen)
    (hdp : 0 < n → dp = some ⟨g, off, none⟩) (h1 : off + n ≤ cur.length) :
    ∃ w', (Builtin.copy_ #[dT, sT] ty #[.slice dp dLen dCap, .slice sp sLen sCap]).run P w = .ok (goInt n) w' ∧
      w'.heap[g]? = some (.cells (icells k (splice cur off (l.take n))) t (0, 0)) ∧ w.grownBy w' (some g) := by
  by_cases h0 : n = 0
  · subst h0
    refine ⟨w, ?_, by simpa [splice] using hg, grownBy_refl _ _⟩
    cases hq : P.info? elem with
    | none => simp [hq] at hsz
    | some i =>
      have hm : Nat.min sLen dLen = 0 := hn.symm
      cases dp <;> cases sp <;> simp [Builtin.copy_, run_underlying hu, Builtin.lenOf, Builtin.firstCells, sizeOf, typeInfo, hq, hm, loadCells, loadCellsFrom, storeCells]
  · rcases hs with rfl | ⟨sg, so, rfl, hc⟩
    · simp at hl
      omega
    obtain rfl := hdp (by omega)
    have hlen : ((l.take n).map (Value.int k)).length = n := by simp; omega
    have hr := run_copy_row (P := P) w dT sT ty elem g off dLen dCap ⟨sg, so, none⟩ sLen sCap (icells k cur) t ((l.take n).map (Value.int k)) hu hsz hg (by rw [hlen, hn]) (by
      intro j v hj
      have hjn : j < n := by
        have := (List.getElem?_eq_some_iff.1 hj).1
        omega
      rw [add_lit, hc j (by omega)]
      simp only [List.getElem?_map, List.getElem?_take, hjn, if_true] at hj
      rw [List.getElem?_eq_getElem (by omega)] at hj
      rw [← hj]
      simp [List.getElem?_eq_getElem (show j < l.length by omega)]) (by rw [hlen, icells_size]; exact h1) (by
      intro v hv
      simp only [List.mem_map] at hv
      obtain ⟨x, _, rfl⟩ := hv
      rfl)
    rw [hlen] at hr
    refine ⟨_, hr, ?_, setRow_grown _ _ _⟩
    rw [setRow_heap w g _ _ t _ hg]
    simp only [icells, map_splice]
    simp only [splice, hlen, List.append_assoc]

/-- The builtin clear on a part of a row of integers. -/
theorem run_clearI (w : World) (dT ty elem : TypeId) (hu : P.underlying dT = some (.slice elem))
    (k : IntKind) (hz : ∀ w, (zeroValue elem).run P w = .ok (.int k 0) w)
    (dp : Option Addr) (n dCap : Nat)
    (g off : Nat) (cur : List Int) (t : TypeId) (hg : w.heap[g]? = some (.cells (icells k cur) t (0, 0)))
    (hdp : 0 < n → dp = some ⟨g, off, none⟩) (h1 : off + n ≤ cur.length) :
    ∃ w', (Builtin.clear_ #[dT] ty #[.slice dp n dCap]).run P w = .ok (.tuple #[]) w' ∧
      w'.heap[g]? = some (.cells (icells k (splice cur off (List.replicate n 0))) t (0, 0)) ∧ w.grownBy w' (some g) := by
  by_cases h0 : n = 0
  · subst h0
    refine ⟨w, ?_, by simpa [splice] using hg, grownBy_refl _ _⟩
    cases dp <;> simp [Builtin.clear_, run_underlying hu]
  · obtain rfl := hdp (by omega)
    refine ⟨w.setRow g (icells k (splice cur off (List.replicate n 0))), ?_, setRow_heap w g _ _ t _ hg, setRow_grown _ _ _⟩
    have hzc : (Builtin.zeroCells #[Value.int k 0] n).toList = (List.replicate n (0 : Int)).map (Value.int k) := by
      simp [Builtin.zeroCells]
      apply List.ext_getElem
      · simp
      · intro i h1 h2
        simp [Nat.mod_one]
    have hst := run_storeCells_at P g off t ((List.replicate n (0 : Int)).map (Value.int k)) 0 (icells k cur) w hg (by simpa [icells_size] using h1) (by
      intro v hv
      simp only [List.mem_map] at hv
      obtain ⟨x, _, rfl⟩ := hv
      rfl)
    obtain ⟨m, rfl⟩ : ∃ m, n = m + 1 := ⟨n - 1, by omega⟩
    have e : icells k (splice cur off (List.replicate (m + 1) 0)) = ((icells k cur).toList.take (off + 0) ++ (List.replicate (m + 1) (0 : Int)).map (Value.int k) ++ (icells k cur).toList.drop (off + 0 + ((List.replicate (m + 1) (0 : Int)).map (Value.int k)).length)).toArray := by
      simp only [icells, map_splice]
      simp [splice]
    rw [e]
    generalize w.setRow g ((icells k cur).toList.take (off + 0) ++ (List.replicate (m + 1) (0 : Int)).map (Value.int k) ++ (icells k cur).toList.drop (off + 0 + ((List.replicate (m + 1) (0 : Int)).map (Value.int k)).length)).toArray = W at hst ⊢
    generalize (List.replicate (m + 1) (0 : Int)).map (Value.int k) = L at hst hzc
    simp [Builtin.clear_, run_underlying hu, hz, Value.cells, hzc, hst, Result.andThen]

/-- make([]T, n), T a kind of integers. -/
theorem run_makeI {T E : TypeId} {k : IntKind} {b : Nat} (hu : P.underlying T = some (.slice E)) (hI : (P.info? E).map (fun i => (i.zero, i.size, i.bytes)) = some (some (.int k 0), 1, b)) (kl kc : IntKind) (n : Nat) (hb : b * n ≤ 281474976710656) (h63 : n ≤ 9223372036854775807) (w : World) :
    (Instr.makeSlice T (.int kl n) (.int kc n)).run P w = .ok (.slice (some ⟨w.heap.size, 0, none⟩) n n) (w.alloc (.cells (icells k (List.replicate n 0)) E)) := by
  obtain ⟨i, hi, hz, hs, hby⟩ := info_parts hI
  have hb' : (i.bytes : Int) * (n : Int) ≤ 281474976710656 := by
    rw [hby]
    have h : ((b * n : Nat) : Int) ≤ 281474976710656 := by omega
    rwa [Int.natCast_mul] at h
  have hr := run_make (P := P) w T E i (.int k 0) hu hi hz kl kc n n (by omega) (by omega) hb' (by omega)
  rw [hs] at hr
  simp only [Int.toNat_natCast, Nat.mul_one] at hr
  rw [hr]
  congr 2
  simp only [madeCells, icells, Value.cells]
  congr 1
  apply Array.ext
  · simp
  · intro i h1 h2
    simp [Nat.mod_one]

/-- The string of a row of bytes. -/
def bstr (l : List Int) : ByteArray := ⟨(l.map (fun n => UInt8.ofNat n.toNat)).toArray⟩
theorem bstr_toList (l : List Int) : (bstr l).toList = l.map (fun n => UInt8.ofNat n.toNat) := ByteArray.toList_mk _
theorem foldl_push (l : List Int) (s : ByteArray) : l.foldl (fun r n => r.push (UInt8.ofNat n.toNat)) s = ⟨s.data ++ (l.map (fun n => UInt8.ofNat n.toNat)).toArray⟩ := by
  induction l generalizing s with
  | nil => simp
  | cons x l ih =>
    rw [List.foldl_cons, ih]
    simp [ByteArray.push]
theorem bstr_foldl (l : List Int) : l.foldl (fun r n => r.push (UInt8.ofNat n.toNat)) ByteArray.empty = bstr l := by
  rw [foldl_push]
  simp [bstr, ByteArray.empty, ByteArray.emptyWithCapacity]
  rfl

/-- string(b), b a slice of bytes. -/
theorem run_bstr {T S E : TypeId} (hT : P.underlying T = some (.slice E)) (hE : P.underlying E = some (.int .u8)) (hS : P.underlying S = some .string)
    (w : World) (sp : Option Addr) (n c : Nat) (l : List Int) (hl : l.length = n) (hs : Src w .u8 sp l) :
    (convert T S (.slice sp n c)).run P w = .ok (.string (bstr l)) w := by
  rw [run_convert_bytes_string w T S E _ n c hT hE hS]
  rcases hs with rfl | ⟨sg, so, rfl, hc⟩
  · simp at hl
    subst hl
    cases sp with
    | none =>
      simp [Conv.bytesToString, bstr, ByteArray.empty, ByteArray.emptyWithCapacity]
      rfl
    | some x =>
      have := run_bytesToString (P := P) w x 0 c [] (by simp [loadCells, loadCellsFrom])
      rw [this, bstr_foldl]
  · have hl2 : (loadCells ⟨sg, so, none⟩ n).run P w = .ok (l.map (Value.int .u8)).toArray w := by
      have := run_loadCells_list (P := P) w ⟨sg, so, none⟩ (l.map (Value.int .u8)) (by
        intro j v hj
        have hjn : j < l.length := by
          have := (List.getElem?_eq_some_iff.1 hj).1
          simpa using this
        rw [add_lit, hc j hjn]
        simp only [List.getElem?_map, List.getElem?_eq_getElem hjn] at hj
        rw [← hj]
        simp [hjn])
      rw [List.length_map, hl] at this
      exact this
    rw [run_bytesToString w _ n c _ hl2, bstr_foldl]
end
end Go.Proofs.Ytaemmeofchonaaa
