/- Rows of bytes: windows of them, a new one, one behind another, a text behind them, a row of bytes as a text. (As UtR, for a seat without 16-bit units; a seat that has both: strike here what UtM and UtR hold.) -/
import Derived.Test.YthnilohilbacpaaDoorRow
import Derived.Test.YthnilohilbacpaaDoorLaw
import Derived.Deep.QuietTactic
import Derived.BigQuiet
import Derived.WalkSpells
import Derived.Laws.BytesArg
import Derived.Laws.AppendOwnNone
import Derived.Lib.AppendStr
namespace Go.Proofs.YthnilohilbacpaaDoor
open Go.ChangeShapes Go.WideShapes Go.ChangeAt Go.RowKit
set_option linter.unusedVariables false

def byteV (c : UInt8) : Value := .int .u8 (c.toNat : Int)
theorem byte_lt (c : UInt8) : c.toNat < 256 := c.toNat_lt
theorem add_plain (b o i : Nat) : (⟨b, o, none⟩ : Addr).add i = ⟨b, o + i, none⟩ := by unfold Addr.add; split <;> simp_all
/-- Where the window from l on begins. -/
def cutA (A : Option Addr) (c l : Nat) : Option Addr := if c = l then A else A.map (·.add (l * 1))
theorem Row.cut {w : World} {A : Option Addr} {n c : Nat} {cs : List Value} (R : Row w A n c cs) {l h : Nat} (hl : l ≤ h) (hh : h ≤ n) : Row w (cutA A c l) (h - l) (c - l) ((cs.take h).drop l) := by
  obtain ⟨h1, h2, h3⟩ := R
  refine ⟨by simp; omega, by omega, fun h0 => ?_⟩
  obtain ⟨b, o, rfl, hb, hc⟩ := h3 (by omega)
  refine ⟨b, o + l, ?_, hb, fun j u hu => ?_⟩
  · rw [cutA, if_neg (by omega)]
    simp [add_plain]
  · rw [List.getElem?_drop] at hu
    have hj : l + j < h := by
      have := (List.getElem?_eq_some_iff.1 hu).1
      simp at this
      omega
    rw [List.getElem?_take_of_lt hj] at hu
    rw [Nat.add_assoc]
    exact hc _ _ hu
theorem Row.lit (w : World) (cs : Array Value) (t : TypeId) (x : Nat × Nat) : Row (w.alloc (.cells cs t x)) (some ⟨w.heap.size, 0, none⟩) cs.size cs.size cs.toList := by
  refine ⟨by simp, Nat.le_refl _, fun _ => ⟨_, _, rfl, by simp, fun j u hu => ?_⟩⟩
  have e := World.cell?_alloc_mark w cs t x (0 + j)
  rw [Nat.zero_add] at e ⊢
  rw [e]
  simpa using hu
theorem byte_one (l : List UInt8) : ∀ u ∈ l.map byteV, u.oneCell' = true := by
  intro u hu
  obtain ⟨x, _, rfl⟩ := List.mem_map.1 hu
  rfl
theorem byte_info : (Tryd.prog.info? 5).map (fun i => (i.zero, i.size, i.bytes)) = some (some (.int .u8 0), 1, 1) := by kernel_rfl
theorem size_byte (w : World) : (Go.sizeOf 5).run Tryd.prog w = .ok 1 w := by kernel_rfl

/-- 'b[l:h]', 'b[l:]', 'b[:h]' of bytes. -/
theorem elem_byte : Tryd.prog.underlying 28 = some (.slice (Tryd.prog.elem 28)) := by kernel_rfl
theorem elem_is : Tryd.prog.elem 28 = 5 := by kernel_rfl
theorem at_is (x : Value) (lo hi : Option Value) (W : World) : (Instr.sliceAt 28 x lo hi none).run Tryd.prog W = (Instr.slice 28 x lo hi none).run Tryd.prog W := run_sliceAt_slice W _ x lo hi none elem_byte
theorem cut_lh (W : World) (A : Option Addr) (n c l h : Nat) (h1 : l ≤ h) (h2 : h ≤ c) :
    (Instr.sliceAt 28 (.slice A n c) (some (.int .i64 (l : Int))) (some (.int .i64 (h : Int))) none).run Tryd.prog W = .ok (.slice (cutA A c l) (h - l) (c - l)) W := by
  rw [at_is, run_slice_lh W _ A n c elem_byte .i64 .i64 _ _ (by omega) (by omega) (by omega), elem_is, size_byte]
  rfl
theorem cut_l (W : World) (A : Option Addr) (n c l : Nat) (h1 : l ≤ n) :
    (Instr.sliceAt 28 (.slice A n c) (some (.int .i64 (l : Int))) none none).run Tryd.prog W = .ok (.slice (cutA A c l) (n - l) (c - l)) W := by
  rw [at_is, run_slice_l W _ A n c elem_byte .i64 _ (by omega) (by omega), elem_is, size_byte]
  rfl
theorem cut_h (W : World) (A : Option Addr) (n c h : Nat) (h2 : h ≤ c) :
    (Instr.sliceAt 28 (.slice A n c) none (some (.int .i64 (h : Int))) none).run Tryd.prog W = .ok (.slice (cutA A c 0) (h - 0) (c - 0)) W := by
  rw [at_is, run_slice_h W _ A n c elem_byte .i64 _ (by omega) (by omega), elem_is, size_byte]
  rfl

set_option maxRecDepth 20000 in
/-- 'string(b)'. -/
theorem conv_row {w : World} {A : Option Addr} {n c : Nat} {l : List UInt8} (R : Row w A n c (l.map byteV)) : (convert 28 9 (.slice A n c)).run Tryd.prog w = .ok (.string (bs l)) w := by
  obtain ⟨h1, h2, h3⟩ := R
  rcases Nat.eq_zero_or_pos n with rfl | hn
  · obtain rfl : l = [] := by simpa using h1
    cases A with
    | none => exact run_convert_bytes_nil w _ _ Tryd.underlying28 Tryd.underlying5 0 c _ Tryd.underlying9
    | some a =>
      obtain ⟨b, o, s⟩ := a
      rw [run_convert_bytes_string w _ _ _ _ 0 c Tryd.underlying28 Tryd.underlying5 Tryd.underlying9]
      exact run_bytesToString w _ 0 c [] (by simpa using run_loadCells_list w ⟨b, o, s⟩ [] (fun j v hj => by simp at hj))
  · obtain ⟨b, o, rfl, hb, hc⟩ := h3 hn
    have h := run_convert_bytes_arg (P := Tryd.prog) w _ _ Tryd.underlying28 Tryd.underlying5 b o n c (l.map fun x => (x.toNat : Int)) (by simpa using h1) (fun i hi => by
      have hl : i < l.length := by simp at h1; omega
      rw [hc i (byteV l[i]) (by simp [hl])]
      simp [byteV, List.getD, hl]) 9 Tryd.underlying9
    rw [h]
    congr 2
    simp only [strOfNums, bs, List.map_map]
    congr 2
    conv => rhs; rw [← List.map_id l]
    apply List.map_congr_left
    intro x _
    simp

section
variable {w : World} {ops : Array Oper} {rest : List Oper} {o : Oper} {a : Act} {Q : Exit → Act → World → Prop}
/-- A window, by what its run gives. -/
theorem wpList_slice {P : Program} {ops : Array Oper} {rest : List Oper} {a : Act} {Q : Exit → Act → World → Prop} {w : World} {t ty : TypeId} {x : Operand} {lo hi : Option Operand} {d : Option Tmp} {p : String} {af : Array Edge} (r : Value)
    (hr : (Instr.sliceAt t (a.eval x) (lo.map a.eval) (hi.map a.eval) none).run P w = .ok r w) (h : wpList P ops Q rest (a.put d r) w) : wpList P ops Q ({ dst := d, op := .slice t x lo hi none, type := ty, pos := p, after := af, guard := none } :: rest) a w := by
  refine wpList_plain rfl fun K hK => ?_
  unfold Oper.wp
  simp [execOp, hr, Result.andThen]
  exact hK _ _ h
/-- Bytes behind bytes, units behind units: the first a row of the call's own, the second any row. -/
theorem wpList_bytes (hgd : o.guard = none) (s x : Operand) (ho : o.op = .call { callee := .builtin .append, args := #[s, x], argTypes := #[28, 28] })
    (base : Nat) (v : Value) (xs ys : List UInt8) (hs : a.eval s = v) (hown : w.ownsRow base 5 1 v xs.length (xs.map byteV))
    (A : Option Addr) (m c : Nat) (hx : a.eval x = .slice A m c) (R : Row w A m c (ys.map byteV)) (hm : 0 < m) (hn : xs.length + m ≤ 1099511627776) (hbase : base ≤ w.heap.size)
    (h : ∀ v' w', w'.ownsRow base 5 1 v' (xs ++ ys).length ((xs ++ ys).map byteV) → Below base w w' → wpList Tryd.prog ops Q rest (a.put o.dst v') w') : wpList Tryd.prog ops Q (o :: rest) a w := by
  obtain ⟨i0, hi, hz0, hz1, hz2⟩ := info_parts byte_info
  obtain ⟨h1, h2, h3⟩ := R
  obtain ⟨b, o', rfl, hb, hc⟩ := h3 hm
  have hy : ys.length = m := by simpa using h1
  refine wpList_append_own _ hgd s x 28 ho base 5 i0 (.int .u8 0) 1 1 Tryd.underlying28 hi hz0 hz1 hz2 rfl (by decide) v xs.length (xs.map byteV) hs hown ⟨b, o', none⟩ m c (ys.map byteV) hx (by simp [hy]) (fun j u hu => by rw [add_plain]; exact hc j u hu) (byte_one ys) (by unfold maxLen; omega) (by omega) hbase ?_
  intro v' w' k1 k2 _
  exact h v' w' (by rw [List.map_append, List.length_append, hy]; exact k1) ((Below.refl _ _).grown k2 hbase (fun q hq => (hown.lt q hq).1))
/-- The same, where the second may be none. -/
theorem wpList_bytes_any (hgd : o.guard = none) (s x : Operand) (ho : o.op = .call { callee := .builtin .append, args := #[s, x], argTypes := #[28, 28] })
    (base : Nat) (v : Value) (xs ys : List UInt8) (hs : a.eval s = v) (hown : w.ownsRow base 5 1 v xs.length (xs.map byteV))
    (A : Option Addr) (m c : Nat) (hx : a.eval x = .slice A m c) (R : Row w A m c (ys.map byteV)) (hA : A = none → m = 0 ∧ c = 0) (hn : xs.length + m ≤ 1099511627776) (hbase : base ≤ w.heap.size)
    (h : ∀ v' w', w'.ownsRow base 5 1 v' (xs ++ ys).length ((xs ++ ys).map byteV) → Below base w w' → wpList Tryd.prog ops Q rest (a.put o.dst v') w') : wpList Tryd.prog ops Q (o :: rest) a w := by
  rcases Nat.eq_zero_or_pos m with rfl | hm
  · obtain ⟨i0, hi, hz0, hz1, hz2⟩ := info_parts byte_info
    obtain rfl : ys = [] := by simpa using R.1
    rw [List.append_nil] at h
    cases A with
    | none =>
      obtain ⟨_, rfl⟩ := hA rfl
      exact wpList_append_own_none hgd s x 28 ho base 5 i0 1 Tryd.underlying28 hi v xs.length (xs.map byteV) hs hown hx (h v w hown (Below.refl _ _))
    | some ad =>
      refine wpList_append_own _ hgd s x 28 ho base 5 i0 (.int .u8 0) 1 1 Tryd.underlying28 hi hz0 hz1 hz2 rfl (by decide) v xs.length (xs.map byteV) hs hown ad 0 c [] hx rfl (fun j u hu => by simp at hu) (fun u hu => by cases hu) (by unfold maxLen; omega) (by omega) hbase ?_
      intro v' w' k1 k2 _
      rw [List.append_nil] at k1
      exact h v' w' k1 ((Below.refl _ _).grown k2 hbase (fun q hq => (hown.lt q hq).1))
  · exact wpList_bytes hgd s x ho base v xs ys hs hown A m c hx R hm hn hbase h
/-- A text behind bytes. -/
theorem wpList_text (hgd : o.guard = none) (s x : Operand) (ho : o.op = .call { callee := .builtin .append, args := #[s, x], argTypes := #[28, 9] })
    (base : Nat) (v : Value) (xs ys : List UInt8) (hs : a.eval s = v) (hown : w.ownsRow base 5 1 v xs.length (xs.map byteV)) (hx : a.eval x = .string (bs ys)) (hn : xs.length + ys.length ≤ 1099511627776) (hbase : base ≤ w.heap.size)
    (h : ∀ v' w', w'.ownsRow base 5 1 v' (xs ++ ys).length ((xs ++ ys).map byteV) → Below base w w' → wpList Tryd.prog ops Q rest (a.put o.dst v') w') : wpList Tryd.prog ops Q (o :: rest) a w := by
  obtain ⟨i0, hi, hz0, hz1, hz2⟩ := info_parts byte_info
  refine Lib.wpList_append_own_string _ hgd s x 28 9 ho base 5 i0 Tryd.underlying28 Tryd.underlying9 hi hz0 hz1 hz2 v xs.length (xs.map byteV) hs hown (bs ys) hx (by rw [bs_size]; unfold maxLen; omega) (by rw [bs_size]; omega) hbase ?_
  intro v' w' k1 k2 _
  refine h v' w' ?_ ((Below.refl _ _).grown k2 hbase (fun q hq => (hown.lt q hq).1))
  rw [List.map_append, List.length_append]
  exact k1
end
end Go.Proofs.YthnilohilbacpaaDoor
