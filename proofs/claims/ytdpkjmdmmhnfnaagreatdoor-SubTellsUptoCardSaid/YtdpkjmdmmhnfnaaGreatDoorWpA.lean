/- Maps from names to classes, and sets of names, that a call makes. -/
import Derived.Test.YtdpkjmdmmhnfnaaGreatDoorWoK
import Derived.Test.YtdpkjmdmmhnfnaaGreatDoorGF
import Derived.Maps.OwnSet
namespace Go.Proofs.YtdpkjmdmmhnfnaaGreatDoor
open Go.ChangeShapes Go.WideShapes Go.ChangeAt Go.RowKit Go.Maps
set_option linter.unusedVariables false

/-! Maps whose elements are classes: an element reads as itself. -/
def readV (v : Value) : Option (DataW Value × List MemPlace) := some (.held v, [])
def zeroV : Value := .agg #[.string ⟨#[]⟩, .string ⟨#[]⟩, .slice none 0 0, .bool false, .slice none 0 0, .slice none 0 0]
theorem zero_class (w : World) : (zeroValue 48).run Tryz.prog w = .ok zeroV w := by kernel_rfl
theorem key_str {y : List UInt8} (h : y.length ≤ maxLen) : keyOf Tryz.prog 9 (.string (bs y)) = some (.string y) := WideMaps.keyOf_string_mk Tryz.underlying9 (by rw [bs_size]; exact h)
theorem lookup_v {w : World} {b n : Nat} {D : DataW Value} (h : w.ownsMap Tryz.prog 9 readV b n D) {y : List UInt8} (hy : y.length ≤ maxLen) {v : Value} (hat : D.atKey (.string y) (.held zeroV) = .held v) :
    (Instr.lookup 53 (.map (some b)) (.string (bs y)) false).run Tryz.prog w = .ok v w := by
  obtain ⟨u, ps, hrun, hu⟩ := h.lookup str_keyed Tryz.underlying53 (zero_class w) (zd := .held zeroV) (zp := []) rfl (key_str hy)
  rw [hat] at hu
  obtain ⟨rfl, _⟩ : u = v ∧ ps = [] := by simpa [readV] using hu
  exact hrun
theorem lookup_vok {w : World} {b n : Nat} {D : DataW Value} (h : w.ownsMap Tryz.prog 9 readV b n D) {y : List UInt8} (hy : y.length ≤ maxLen) {v : Value} (hat : D.atKey (.string y) (.held zeroV) = .held v) {r : Bool} (hr : has D (.string y) = r) :
    (Instr.lookup 53 (.map (some b)) (.string (bs y)) true).run Tryz.prog w = .ok (.tuple #[v, .bool r]) w := by
  obtain ⟨u, ps, hrun, hu⟩ := h.look_ok str_keyed Tryz.underlying53 (zero_class w) (zd := .held zeroV) (zp := []) rfl (key_str hy)
  rw [hat] at hu
  obtain ⟨rfl, _⟩ : u = v ∧ ps = [] := by simpa [readV] using hu
  rw [hr] at hrun
  exact hrun
theorem wpList_lookup_v (w : World) {ops : Array Oper} {rest : List Oper} {o : Oper} {a : Act} {Q : Exit → Act → World → Prop} (hg : o.guard = none) (m x : Operand) (hop : o.op = Op.lookup 53 m x false)
    (b n : Nat) (D : DataW Value) (hm : a.eval m = .map (some b)) (hown : w.ownsMap Tryz.prog 9 readV b n D) (y : List UInt8) (hx : a.eval x = .string (bs y)) (hy : y.length ≤ maxLen) (v : Value) (hat : D.atKey (.string y) (.held zeroV) = .held v)
    (hK : wpList Tryz.prog ops Q rest (a.put o.dst v) w) : wpList Tryz.prog ops Q (o :: rest) a w := by
  refine wpList_plain hg fun K' hK' => ?_
  have hrun := lookup_v hown hy hat
  unfold Oper.wp
  simp [execOp, hop, hm, hx, hrun, Result.andThen]
  exact hK' _ _ hK
theorem wpList_lookup_vok (w : World) {ops : Array Oper} {rest : List Oper} {o : Oper} {a : Act} {Q : Exit → Act → World → Prop} (hg : o.guard = none) (m x : Operand) (hop : o.op = Op.lookup 53 m x true)
    (b n : Nat) (D : DataW Value) (hm : a.eval m = .map (some b)) (hown : w.ownsMap Tryz.prog 9 readV b n D) (y : List UInt8) (hx : a.eval x = .string (bs y)) (hy : y.length ≤ maxLen) (v : Value) (hat : D.atKey (.string y) (.held zeroV) = .held v) (r : Bool) (hr : has D (.string y) = r)
    (hK : wpList Tryz.prog ops Q rest (a.put o.dst (.tuple #[v, .bool r])) w) : wpList Tryz.prog ops Q (o :: rest) a w := by
  refine wpList_plain hg fun K' hK' => ?_
  have hrun := lookup_vok hown hy hat hr
  unfold Oper.wp
  simp [execOp, hop, hm, hx, hrun, Result.andThen]
  exact hK' _ _ hK
theorem insert_v {w : World} {b n : Nat} {D : DataW Value} (h : w.ownsMap Tryz.prog 9 readV b n D) (hn : n < maxLen) {y : List UInt8} (hy : y.length ≤ maxLen) (v : Value) :
    ∃ w', (Instr.mapUpdate 53 (.map (some b)) (.string (bs y)) v).run Tryz.prog w = .ok () w' ∧ w'.ownsMap Tryz.prog 9 readV b (n + 1) (D.put (.string y) (.held v)) ∧ w.grownBy w' (some b) :=
  h.update str_keyed Tryz.underlying53 hn (key_str hy) (d := .held v) (ps := []) rfl
theorem wpList_insert_v (w : World) {ops : Array Oper} {rest : List Oper} {o : Oper} {a : Act} {Q : Exit → Act → World → Prop} (hg : o.guard = none) (m x z : Operand) (hop : o.op = Op.insert 53 m x z)
    (b n : Nat) (D : DataW Value) (hm : a.eval m = .map (some b)) (hown : w.ownsMap Tryz.prog 9 readV b n D) (hn : n < maxLen) (y : List UInt8) (hx : a.eval x = .string (bs y)) (hy : y.length ≤ maxLen) (v : Value) (hv : a.eval z = v)
    (hK : ∀ w', w'.ownsMap Tryz.prog 9 readV b (n + 1) (D.put (.string y) (.held v)) → w.grownBy w' (some b) → wpList Tryz.prog ops Q rest (a.put o.dst undef) w') : wpList Tryz.prog ops Q (o :: rest) a w := by
  refine wpList_plain hg fun K' hK' => ?_
  obtain ⟨w', hrun, r1, r2⟩ := insert_v hown hn hy v
  unfold Oper.wp
  simp [execOp, hop, hm, hx, hv, hrun, Result.andThen]
  exact hK' _ _ (hK w' r1 r2)
theorem wpList_update_v (w : World) {ops : Array Oper} {rest : List Oper} {o : Oper} {a : Act} {Q : Exit → Act → World → Prop} (hg : o.guard = none) (m x z : Operand) (hop : o.op = Op.mapUpdate 53 m x z)
    (b n : Nat) (D : DataW Value) (hm : a.eval m = .map (some b)) (hown : w.ownsMap Tryz.prog 9 readV b n D) (hn : n < maxLen) (y : List UInt8) (hx : a.eval x = .string (bs y)) (hy : y.length ≤ maxLen) (v : Value) (hv : a.eval z = v)
    (hK : ∀ w', w'.ownsMap Tryz.prog 9 readV b (n + 1) (D.put (.string y) (.held v)) → w.grownBy w' (some b) → wpList Tryz.prog ops Q rest (a.put o.dst undef) w') : wpList Tryz.prog ops Q (o :: rest) a w := by
  refine wpList_plain hg fun K' hK' => ?_
  obtain ⟨w', hrun, r1, r2⟩ := insert_v hown hn hy v
  unfold Oper.wp
  simp [execOp, hop, hm, hx, hv, hrun, Result.andThen]
  exact hK' _ _ (hK w' r1 r2)

/-- What the map says: the classes of pre, and the two that are always there; their lists lie in w0. -/
def MapSays (w0 : World) (D : DataW Value) (pre : List ClassD) : Prop :=
  IsMap D ∧ ∀ y : List UInt8, has D (.string y) = knownB pre y ∧ ∃ v, D.atKey (.string y) (.held zeroV) = .held v ∧ Held w0 (classD pre y) v
def ClassMap (w0 w : World) (b n : Nat) (pre : List ClassD) : Prop := ∃ D : DataW Value, w.ownsMap Tryz.prog 9 readV b n D ∧ MapSays w0 D pre
theorem ClassMap.kept {w0 w w' : World} {b n : Nat} {pre : List ClassD} {row : Option Nat} (h : ClassMap w0 w b n pre) (hg : w.grownBy w' row) (hne : some b ≠ row) : ClassMap w0 w' b n pre := by
  obtain ⟨D, h1, h2⟩ := h
  exact ⟨D, h1.kept hg hne, h2⟩
theorem below_grown {w w' : World} (h : Below w.heap.size w w') : w.grownBy w' none := ⟨h.os, h.tape, h.output, h.size, fun k hk _ => h.block k hk⟩
theorem ClassMap.below {w0 w w' : World} {b n : Nat} {pre : List ClassD} (h : ClassMap w0 w b n pre) (hb : Below w.heap.size w w') : ClassMap w0 w' b n pre := h.kept (below_grown hb) (by simp)
theorem ClassMap.lt {w0 w : World} {b n : Nat} {pre : List ClassD} (h : ClassMap w0 w b n pre) : b < w.heap.size := by
  obtain ⟨D, h1, _⟩ := h
  exact h1.lt
theorem ClassMap.mono {w0 w : World} {b n m : Nat} {pre : List ClassD} (h : ClassMap w0 w b n pre) (hn : n ≤ m) : ClassMap w0 w b m pre := by
  obtain ⟨D, h1, h2⟩ := h
  exact ⟨D, h1.mono hn, h2⟩
def objV : Value := .agg #[.string (bs objB), .string ⟨#[]⟩, .slice none 0 0, .bool false, .slice none 0 0, .slice none 0 0]
def fltV : Value := .agg #[.string (bs fltB), .string (bs objB), .slice none 0 0, .bool false, .slice none 0 0, .slice none 0 0]
theorem map_start (w0 : World) : MapSays w0 (((DataW.map []).put (.string objB) (.held objV)).put (.string fltB) (.held fltV)) [] := by
  have hm0 : IsMap (DataW.map [] : DataW Value) := isMap_empty
  have hm1 := hm0.put (.string objB) (.held objV)
  refine ⟨hm1.put _ _, fun y => ?_⟩
  by_cases h1 : y = fltB
  · subst h1
    refine ⟨by rw [has_put_same hm1 (show WideAt.IsKeyLit (.string fltB) from trivial), known_flt], fltV, atKey_put_same hm1 (show WideAt.IsKeyLit (.string fltB) from trivial) _ _, ?_⟩
    rw [classD_some classOf_flt]
    exact held_bare w0 (c := fltC) rfl rfl rfl
  · have n1 : Lit.string y ≠ Lit.string fltB := by simpa using h1
    by_cases h2 : y = objB
    · subst h2
      refine ⟨by rw [has_put_other n1, has_put_same hm0 (show WideAt.IsKeyLit (.string objB) from trivial), known_obj], objV, by rw [atKey_put_other n1]; exact atKey_put_same hm0 (show WideAt.IsKeyLit (.string objB) from trivial) _ _, ?_⟩
      rw [classD_some classOf_obj]
      exact held_bare w0 (c := objC) rfl rfl rfl
    · have n2 : Lit.string y ≠ Lit.string objB := by simpa using h2
      have e : classOf [] y = none := by unfold classOf; rw [if_neg h2, if_neg h1]; rfl
      refine ⟨by rw [has_put_other n1, has_put_other n2]; unfold knownB; rw [e]; rfl, zeroV, by rw [atKey_put_other n1, atKey_put_other n2]; rfl, ?_⟩
      rw [classD_none e]
      exact held_bare w0 (c := zeroC) rfl rfl rfl
theorem classOf_more {pre : List ClassD} {c : ClassD} (h : knownB pre c.nm = false) (y : List UInt8) : classOf (pre ++ [c]) y = if y = c.nm then some c else classOf pre y := by
  have h0 : classOf pre c.nm = none := by unfold knownB at h; simpa using h
  unfold classOf at h0 ⊢
  split at h0
  · cases h0
  rename_i e1
  split at h0
  · cases h0
  rename_i e2
  by_cases hy : y = c.nm
  · subst hy
    rw [if_neg e1, if_neg e2, if_pos rfl, List.find?_append, h0]
    simp
  · rw [if_neg hy]
    split
    · rfl
    split
    · rfl
    rw [List.find?_append]
    have : List.find? (fun x => x.nm == y) [c] = none := by
      rw [List.find?_eq_none]
      intro x hx
      obtain rfl := List.mem_singleton.1 hx
      simpa using fun e => hy e.symm
    rw [this, Option.or_none]
theorem map_put {w0 : World} {D : DataW Value} {pre : List ClassD} {c : ClassD} {v : Value} (h : MapSays w0 D pre) (hc : knownB pre c.nm = false) (hv : Held w0 c v) : MapSays w0 (D.put (.string c.nm) (.held v)) (pre ++ [c]) := by
  refine ⟨h.1.put _ _, fun y => ?_⟩
  have e := classOf_more hc y
  by_cases hy : y = c.nm
  · subst hy
    rw [if_pos rfl] at e
    refine ⟨by rw [has_put_same h.1 (show WideAt.IsKeyLit (.string c.nm) from trivial)]; unfold knownB; rw [e]; rfl, v, atKey_put_same h.1 (show WideAt.IsKeyLit (.string c.nm) from trivial) _ _, ?_⟩
    rw [classD_some e]
    exact hv
  · rw [if_neg hy] at e
    have n1 : Lit.string y ≠ Lit.string c.nm := by simpa using hy
    obtain ⟨h1, u, h2, h3⟩ := h.2 y
    refine ⟨by rw [has_put_other n1, h1]; unfold knownB; rw [e], u, by rw [atKey_put_other n1, h2], ?_⟩
    have : classD (pre ++ [c]) y = classD pre y := by unfold classD; rw [e]
    rw [this]
    exact h3

/-! Sets of names. -/
def NameSet (w : World) (b n : Nat) (pre : List (List UInt8)) : Prop := ∃ D : DataW Unit, w.ownsMap Tryz.prog 9 (plainElem Tryz.prog 4) b n D ∧ Says D pre ∧ ∀ y : List UInt8, has D (.string y) = pre.any (· == y)
theorem NameSet.kept {w w' : World} {b n : Nat} {pre : List (List UInt8)} {row : Option Nat} (h : NameSet w b n pre) (hg : w.grownBy w' row) (hne : some b ≠ row) : NameSet w' b n pre := by
  obtain ⟨D, h1, h2⟩ := h
  exact ⟨D, h1.kept hg hne, h2⟩
theorem NameSet.below {w w' : World} {b n : Nat} {pre : List (List UInt8)} (h : NameSet w b n pre) (hb : Below w.heap.size w w') : NameSet w' b n pre := h.kept (below_grown hb) (by simp)
theorem NameSet.lt {w : World} {b n : Nat} {pre : List (List UInt8)} (h : NameSet w b n pre) : b < w.heap.size := by
  obtain ⟨D, h1, _⟩ := h
  exact h1.lt
theorem nameSet_made (w : World) : NameSet (w.alloc (.map #[] 0)) w.heap.size 0 [] := ⟨_, World.ownsMap_made _ _ _ _, says_empty, fun y => rfl⟩
theorem has_more {D : DataW Unit} {pre : List (List UInt8)} (hm : IsMap D) (h : ∀ y : List UInt8, has D (.string y) = pre.any (· == y)) (x : List UInt8) (d : DataW Unit) (y : List UInt8) : has (D.put (.string x) d) (.string y) = (pre ++ [x]).any (· == y) := by
  by_cases e : y = x
  · subst e
    rw [has_put_same hm (show WideAt.IsKeyLit (.string y) from trivial)]
    simp
  · rw [has_put_other (by simpa using e), h y, List.any_append]
    have : (x == y) = false := by rw [beq_eq_false_iff_ne]; exact fun e' => e e'.symm
    simp [this]
theorem NameSet.put {w : World} {b n : Nat} {pre : List (List UInt8)} (h : NameSet w b n pre) (hn : n < maxLen) {x : List UInt8} (hx : x.length ≤ maxLen) :
    ∃ w', (Instr.mapUpdate 56 (.map (some b)) (.string (bs x)) (.bool true)).run Tryz.prog w = .ok () w' ∧ NameSet w' b (n + 1) (pre ++ [x]) ∧ w.grownBy w' (some b) := by
  obtain ⟨D, h1, h2, h3⟩ := h
  obtain ⟨w', hr, r1, r2⟩ := h1.update str_keyed Tryz.underlying56 hn (key_str hx) (plainElem_bool Tryz.underlying4 true)
  exact ⟨w', hr, ⟨_, r1, says_put h2 x, has_more h2.1 h3 x _⟩, r2⟩
theorem wpList_add (w : World) {ops : Array Oper} {rest : List Oper} {o : Oper} {a : Act} {Q : Exit → Act → World → Prop} (hg : o.guard = none) (m x z : Operand) (hop : o.op = Op.mapUpdate 56 m x z)
    (b n : Nat) (pre : List (List UInt8)) (hm : a.eval m = .map (some b)) (hown : NameSet w b n pre) (hn : n < maxLen) (y : List UInt8) (hx : a.eval x = .string (bs y)) (hy : y.length ≤ maxLen) (hv : a.eval z = .bool true)
    (hK : ∀ w', NameSet w' b (n + 1) (pre ++ [y]) → w.grownBy w' (some b) → wpList Tryz.prog ops Q rest (a.put o.dst undef) w') : wpList Tryz.prog ops Q (o :: rest) a w := by
  refine wpList_plain hg fun K' hK' => ?_
  obtain ⟨w', hrun, r1, r2⟩ := hown.put hn hy
  unfold Oper.wp
  simp [execOp, hop, hm, hx, hv, hrun, Result.andThen]
  exact hK' _ _ (hK w' r1 r2)
theorem NameSet.asks {w : World} {b n : Nat} {pre : List (List UInt8)} (h : NameSet w b n pre) {y : List UInt8} (hy : y.length ≤ maxLen) {r : Bool} (hr : pre.any (· == y) = r) :
    (Instr.lookup 56 (.map (some b)) (.string (bs y)) false).run Tryz.prog w = .ok (.bool r) w := by
  obtain ⟨D, h1, h2, _⟩ := h
  exact lookup_bool h1 str_keyed Tryz.underlying56 Tryz.underlying4 (zero_bool w) (key_str hy) (by rw [h2.2 y, hr])
theorem wpList_asks (w : World) {ops : Array Oper} {rest : List Oper} {o : Oper} {a : Act} {Q : Exit → Act → World → Prop} (hg : o.guard = none) (m x : Operand) (hop : o.op = Op.lookup 56 m x false)
    (b n : Nat) (pre : List (List UInt8)) (hm : a.eval m = .map (some b)) (hown : NameSet w b n pre) (y : List UInt8) (hx : a.eval x = .string (bs y)) (hy : y.length ≤ maxLen) (r : Bool) (hr : pre.any (· == y) = r)
    (hK : wpList Tryz.prog ops Q rest (a.put o.dst (.bool r)) w) : wpList Tryz.prog ops Q (o :: rest) a w := by
  refine wpList_plain hg fun K' hK' => ?_
  have hrun := hown.asks hy hr
  unfold Oper.wp
  simp [execOp, hop, hm, hx, hrun, Result.andThen]
  exact hK' _ _ hK
end Go.Proofs.YtdpkjmdmmhnfnaaGreatDoor
