/- Maps from names to classes, and sets of names, that a call makes. Package world: parents, copied. Package world: collect. -/
import Derived.Test.YtkolpbjpgobkcaaDoorGX
import Derived.Test.YtkolpbjpgobkcaaDoorGF
import Derived.Maps.OwnSet
import Derived.Laws.OwnMore
namespace Go.Proofs.YtkolpbjpgobkcaaDoor
open Go.ChangeShapes Go.WideShapes Go.ChangeAt Go.RowKit Go.Maps
set_option linter.unusedVariables false

/-! Maps whose elements are classes: an element reads as itself. -/
def readV (v : Value) : Option (DataW Value × List MemPlace) := some (.held v, [])
def zeroV : Value := .agg #[.string ⟨#[]⟩, .string ⟨#[]⟩, .slice none 0 0, .bool false, .slice none 0 0, .slice none 0 0]
theorem zero_class (w : World) : (zeroValue 31).run Tryd.prog w = .ok zeroV w := by kernel_rfl
theorem key_str {y : List UInt8} (h : y.length ≤ maxLen) : keyOf Tryd.prog 9 (.string (bs y)) = some (.string y) := WideMaps.keyOf_string_mk Tryd.underlying9 (by rw [bs_size]; exact h)
theorem lookup_v {w : World} {b n : Nat} {D : DataW Value} (h : w.ownsMap Tryd.prog 9 readV b n D) {y : List UInt8} (hy : y.length ≤ maxLen) {v : Value} (hat : D.atKey (.string y) (.held zeroV) = .held v) :
    (Instr.lookup 46 (.map (some b)) (.string (bs y)) false).run Tryd.prog w = .ok v w := by
  obtain ⟨u, ps, hrun, hu⟩ := h.lookup str_keyed Tryd.underlying46 (zero_class w) (zd := .held zeroV) (zp := []) rfl (key_str hy)
  rw [hat] at hu
  obtain ⟨rfl, _⟩ : u = v ∧ ps = [] := by simpa [readV] using hu
  exact hrun
theorem lookup_vok {w : World} {b n : Nat} {D : DataW Value} (h : w.ownsMap Tryd.prog 9 readV b n D) {y : List UInt8} (hy : y.length ≤ maxLen) {v : Value} (hat : D.atKey (.string y) (.held zeroV) = .held v) {r : Bool} (hr : has D (.string y) = r) :
    (Instr.lookup 46 (.map (some b)) (.string (bs y)) true).run Tryd.prog w = .ok (.tuple #[v, .bool r]) w := by
  obtain ⟨u, ps, hrun, hu⟩ := h.look_ok str_keyed Tryd.underlying46 (zero_class w) (zd := .held zeroV) (zp := []) rfl (key_str hy)
  rw [hat] at hu
  obtain ⟨rfl, _⟩ : u = v ∧ ps = [] := by simpa [readV] using hu
  rw [hr] at hrun
  exact hrun
theorem wpList_lookup_v (w : World) {ops : Array Oper} {rest : List Oper} {o : Oper} {a : Act} {Q : Exit → Act → World → Prop} (hg : o.guard = none) (m x : Operand) (hop : o.op = Op.lookup 46 m x false)
    (b n : Nat) (D : DataW Value) (hm : a.eval m = .map (some b)) (hown : w.ownsMap Tryd.prog 9 readV b n D) (y : List UInt8) (hx : a.eval x = .string (bs y)) (hy : y.length ≤ maxLen) (v : Value) (hat : D.atKey (.string y) (.held zeroV) = .held v)
    (hK : wpList Tryd.prog ops Q rest (a.put o.dst v) w) : wpList Tryd.prog ops Q (o :: rest) a w := by
  refine wpList_plain hg fun K' hK' => ?_
  have hrun := lookup_v hown hy hat
  unfold Oper.wp
  simp [execOp, hop, hm, hx, hrun, Result.andThen]
  exact hK' _ _ hK
theorem wpList_lookup_vok (w : World) {ops : Array Oper} {rest : List Oper} {o : Oper} {a : Act} {Q : Exit → Act → World → Prop} (hg : o.guard = none) (m x : Operand) (hop : o.op = Op.lookup 46 m x true)
    (b n : Nat) (D : DataW Value) (hm : a.eval m = .map (some b)) (hown : w.ownsMap Tryd.prog 9 readV b n D) (y : List UInt8) (hx : a.eval x = .string (bs y)) (hy : y.length ≤ maxLen) (v : Value) (hat : D.atKey (.string y) (.held zeroV) = .held v) (r : Bool) (hr : has D (.string y) = r)
    (hK : wpList Tryd.prog ops Q rest (a.put o.dst (.tuple #[v, .bool r])) w) : wpList Tryd.prog ops Q (o :: rest) a w := by
  refine wpList_plain hg fun K' hK' => ?_
  have hrun := lookup_vok hown hy hat hr
  unfold Oper.wp
  simp [execOp, hop, hm, hx, hrun, Result.andThen]
  exact hK' _ _ hK
theorem insert_v {w : World} {b n : Nat} {D : DataW Value} (h : w.ownsMap Tryd.prog 9 readV b n D) (hn : n < maxLen) {y : List UInt8} (hy : y.length ≤ maxLen) (v : Value) :
    ∃ w', (Instr.mapUpdate 46 (.map (some b)) (.string (bs y)) v).run Tryd.prog w = .ok () w' ∧ w'.ownsMap Tryd.prog 9 readV b (n + 1) (D.put (.string y) (.held v)) ∧ w.grownBy w' (some b) :=
  h.update str_keyed Tryd.underlying46 hn (key_str hy) (d := .held v) (ps := []) rfl
theorem wpList_insert_v (w : World) {ops : Array Oper} {rest : List Oper} {o : Oper} {a : Act} {Q : Exit → Act → World → Prop} (hg : o.guard = none) (m x z : Operand) (hop : o.op = Op.insert 46 m x z)
    (b n : Nat) (D : DataW Value) (hm : a.eval m = .map (some b)) (hown : w.ownsMap Tryd.prog 9 readV b n D) (hn : n < maxLen) (y : List UInt8) (hx : a.eval x = .string (bs y)) (hy : y.length ≤ maxLen) (v : Value) (hv : a.eval z = v)
    (hK : ∀ w', w'.ownsMap Tryd.prog 9 readV b (n + 1) (D.put (.string y) (.held v)) → w.grownBy w' (some b) → wpList Tryd.prog ops Q rest (a.put o.dst undef) w') : wpList Tryd.prog ops Q (o :: rest) a w := by
  refine wpList_plain hg fun K' hK' => ?_
  obtain ⟨w', hrun, r1, r2⟩ := insert_v hown hn hy v
  unfold Oper.wp
  simp [execOp, hop, hm, hx, hv, hrun, Result.andThen]
  exact hK' _ _ (hK w' r1 r2)
theorem wpList_update_v (w : World) {ops : Array Oper} {rest : List Oper} {o : Oper} {a : Act} {Q : Exit → Act → World → Prop} (hg : o.guard = none) (m x z : Operand) (hop : o.op = Op.mapUpdate 46 m x z)
    (b n : Nat) (D : DataW Value) (hm : a.eval m = .map (some b)) (hown : w.ownsMap Tryd.prog 9 readV b n D) (hn : n < maxLen) (y : List UInt8) (hx : a.eval x = .string (bs y)) (hy : y.length ≤ maxLen) (v : Value) (hv : a.eval z = v)
    (hK : ∀ w', w'.ownsMap Tryd.prog 9 readV b (n + 1) (D.put (.string y) (.held v)) → w.grownBy w' (some b) → wpList Tryd.prog ops Q rest (a.put o.dst undef) w') : wpList Tryd.prog ops Q (o :: rest) a w := by
  refine wpList_plain hg fun K' hK' => ?_
  obtain ⟨w', hrun, r1, r2⟩ := insert_v hown hn hy v
  unfold Oper.wp
  simp [execOp, hop, hm, hx, hv, hrun, Result.andThen]
  exact hK' _ _ (hK w' r1 r2)

/-- What the map says: the classes of pre, and the two that are always there; their lists lie in w0. -/
def MapSays (w0 : World) (D : DataW Value) (pre : List ClassD) : Prop :=
  IsMap D ∧ ∀ y : List UInt8, has D (.string y) = knownB pre y ∧ ∃ v, D.atKey (.string y) (.held zeroV) = .held v ∧ Held w0 (classD pre y) v
def ClassMap (w0 w : World) (b n : Nat) (pre : List ClassD) : Prop := ∃ D : DataW Value, w.ownsMap Tryd.prog 9 readV b n D ∧ MapSays w0 D pre
theorem ClassMap.kept {w0 w w' : World} {b n : Nat} {pre : List ClassD} {row : Option Nat} (h : ClassMap w0 w b n pre) (hg : w.grownBy w' row) (hne : some b ≠ row) : ClassMap w0 w' b n pre := by
  obtain ⟨D, h1, h2⟩ := h
  exact ⟨D, h1.kept hg hne, h2⟩
theorem below_grown {w w' : World} (h : Below w.heap.size w w') : w.grownBy w' none := ⟨h.os, h.tape, h.output, h.size, fun k hk _ => h.block k hk⟩
theorem ClassMap.below {w0 w w' : World} {b n : Nat} {pre : List ClassD} (h : ClassMap w0 w b n pre) (hb : Below w.heap.size w w') : ClassMap w0 w' b n pre := h.kept (below_grown hb) (by simp)
theorem ClassMap.lt {w0 w : World} {b n : Nat} {pre : List ClassD} (h : ClassMap w0 w b n pre) : b < w.heap.size := by
  obtain ⟨D, h1, _⟩ := h
  exact h1.lt
theorem ClassMap.mono {w0 w : World} {b n m : Nat} {pre : List ClassD} (h : ClassMap w0 w b n pre) (hn : n ≤ m) : ClassMap w0 w b m pre := by
  obtain ⟨D, h1, h2⟩ := h
  exact ⟨D, h1.mono hn, h2⟩
def objV : Value := .agg #[.string (bs objB), .string ⟨#[]⟩, .slice none 0 0, .bool false, .slice none 0 0, .slice none 0 0]
def fltV : Value := .agg #[.string (bs fltB), .string (bs objB), .slice none 0 0, .bool false, .slice none 0 0, .slice none 0 0]
theorem map_start (w0 : World) : MapSays w0 (((DataW.map []).put (.string objB) (.held objV)).put (.string fltB) (.held fltV)) [] := by
  have hm0 : IsMap (DataW.map [] : DataW Value) := isMap_empty
  have hm1 := hm0.put (.string objB) (.held objV)
  refine ⟨hm1.put _ _, fun y => ?_⟩
  by_cases h1 : y = fltB
  · subst h1
    refine ⟨by rw [has_put_same hm1 (show WideAt.IsKeyLit (.string fltB) from trivial), known_flt], fltV, atKey_put_same hm1 (show WideAt.IsKeyLit (.string fltB) from trivial) _ _, ?_⟩
    rw [classD_some classOf_flt]
    exact held_bare w0 (c := fltC) rfl rfl rfl
  · have n1 : Lit.string y ≠ Lit.string fltB := by simpa using h1
    by_cases h2 : y = objB
    · subst h2
      refine ⟨by rw [has_put_other n1, has_put_same hm0 (show WideAt.IsKeyLit (.string objB) from trivial), known_obj], objV, by rw [atKey_put_other n1]; exact atKey_put_same hm0 (show WideAt.IsKeyLit (.string objB) from trivial) _ _, ?_⟩
      rw [classD_some classOf_obj]
      exact held_bare w0 (c := objC) rfl rfl rfl
    · have n2 : Lit.string y ≠ Lit.string objB := by simpa using h2
      have e : classOf [] y = none := by unfold classOf; rw [if_neg h2, if_neg h1]; rfl
      refine ⟨by rw [has_put_other n1, has_put_other n2]; unfold knownB; rw [e]; rfl, zeroV, by rw [atKey_put_other n1, atKey_put_other n2]; rfl, ?_⟩
      rw [classD_none e]
      exact held_bare w0 (c := zeroC) rfl rfl rfl
theorem classOf_more {pre : List ClassD} {c : ClassD} (h : knownB pre c.nm = false) (y : List UInt8) : classOf (pre ++ [c]) y = if y = c.nm then some c else classOf pre y := by
  have h0 : classOf pre c.nm = none := by unfold knownB at h; simpa using h
  unfold classOf at h0 ⊢
  split at h0
  · cases h0
  rename_i e1
  split at h0
  · cases h0
  rename_i e2
  by_cases hy : y = c.nm
  · subst hy
    rw [if_neg e1, if_neg e2, if_pos rfl, List.find?_append, h0]
    simp
  · rw [if_neg hy]
    split
    · rfl
    split
    · rfl
    rw [List.find?_append]
    have : List.find? (fun x => x.nm == y) [c] = none := by
      rw [List.find?_eq_none]
      intro x hx
      obtain rfl := List.mem_singleton.1 hx
      simpa using fun e => hy e.symm
    rw [this, Option.or_none]
theorem map_put {w0 : World} {D : DataW Value} {pre : List ClassD} {c : ClassD} {v : Value} (h : MapSays w0 D pre) (hc : knownB pre c.nm = false) (hv : Held w0 c v) : MapSays w0 (D.put (.string c.nm) (.held v)) (pre ++ [c]) := by
  refine ⟨h.1.put _ _, fun y => ?_⟩
  have e := classOf_more hc y
  by_cases hy : y = c.nm
  · subst hy
    rw [if_pos rfl] at e
    refine ⟨by rw [has_put_same h.1 (show WideAt.IsKeyLit (.string c.nm) from trivial)]; unfold knownB; rw [e]; rfl, v, atKey_put_same h.1 (show WideAt.IsKeyLit (.string c.nm) from trivial) _ _, ?_⟩
    rw [classD_some e]
    exact hv
  · rw [if_neg hy] at e
    have n1 : Lit.string y ≠ Lit.string c.nm := by simpa using hy
    obtain ⟨h1, u, h2, h3⟩ := h.2 y
    refine ⟨by rw [has_put_other n1, h1]; unfold knownB; rw [e], u, by rw [atKey_put_other n1, h2], ?_⟩
    have : classD (pre ++ [c]) y = classD pre y := by unfold classD; rw [e]
    rw [this]
    exact h3

/-! Sets of names. -/
def NameSet (w : World) (b n : Nat) (pre : List (List UInt8)) : Prop := ∃ D : DataW Unit, w.ownsMap Tryd.prog 9 (plainElem Tryd.prog 4) b n D ∧ Says D pre ∧ ∀ y : List UInt8, has D (.string y) = pre.any (· == y)
theorem NameSet.kept {w w' : World} {b n : Nat} {pre : List (List UInt8)} {row : Option Nat} (h : NameSet w b n pre) (hg : w.grownBy w' row) (hne : some b ≠ row) : NameSet w' b n pre := by
  obtain ⟨D, h1, h2⟩ := h
  exact ⟨D, h1.kept hg hne, h2⟩
theorem NameSet.below {w w' : World} {b n : Nat} {pre : List (List UInt8)} (h : NameSet w b n pre) (hb : Below w.heap.size w w') : NameSet w' b n pre := h.kept (below_grown hb) (by simp)
theorem NameSet.lt {w : World} {b n : Nat} {pre : List (List UInt8)} (h : NameSet w b n pre) : b < w.heap.size := by
  obtain ⟨D, h1, _⟩ := h
  exact h1.lt
theorem nameSet_made (w : World) : NameSet (w.alloc (.map #[] 0)) w.heap.size 0 [] := ⟨_, World.ownsMap_made _ _ _ _, says_empty, fun y => rfl⟩
theorem has_more {D : DataW Unit} {pre : List (List UInt8)} (hm : IsMap D) (h : ∀ y : List UInt8, has D (.string y) = pre.any (· == y)) (x : List UInt8) (d : DataW Unit) (y : List UInt8) : has (D.put (.string x) d) (.string y) = (pre ++ [x]).any (· == y) := by
  by_cases e : y = x
  · subst e
    rw [has_put_same hm (show WideAt.IsKeyLit (.string y) from trivial)]
    simp
  · rw [has_put_other (by simpa using e), h y, List.any_append]
    have : (x == y) = false := by rw [beq_eq_false_iff_ne]; exact fun e' => e e'.symm
    simp [this]
theorem NameSet.put {w : World} {b n : Nat} {pre : List (List UInt8)} (h : NameSet w b n pre) (hn : n < maxLen) {x : List UInt8} (hx : x.length ≤ maxLen) :
    ∃ w', (Instr.mapUpdate 54 (.map (some b)) (.string (bs x)) (.bool true)).run Tryd.prog w = .ok () w' ∧ NameSet w' b (n + 1) (pre ++ [x]) ∧ w.grownBy w' (some b) := by
  obtain ⟨D, h1, h2, h3⟩ := h
  obtain ⟨w', hr, r1, r2⟩ := h1.update str_keyed Tryd.underlying54 hn (key_str hx) (plainElem_bool Tryd.underlying4 true)
  exact ⟨w', hr, ⟨_, r1, says_put h2 x, has_more h2.1 h3 x _⟩, r2⟩
theorem wpList_add (w : World) {ops : Array Oper} {rest : List Oper} {o : Oper} {a : Act} {Q : Exit → Act → World → Prop} (hg : o.guard = none) (m x z : Operand) (hop : o.op = Op.mapUpdate 54 m x z)
    (b n : Nat) (pre : List (List UInt8)) (hm : a.eval m = .map (some b)) (hown : NameSet w b n pre) (hn : n < maxLen) (y : List UInt8) (hx : a.eval x = .string (bs y)) (hy : y.length ≤ maxLen) (hv : a.eval z = .bool true)
    (hK : ∀ w', NameSet w' b (n + 1) (pre ++ [y]) → w.grownBy w' (some b) → wpList Tryd.prog ops Q rest (a.put o.dst undef) w') : wpList Tryd.prog ops Q (o :: rest) a w := by
  refine wpList_plain hg fun K' hK' => ?_
  obtain ⟨w', hrun, r1, r2⟩ := hown.put hn hy
  unfold Oper.wp
  simp [execOp, hop, hm, hx, hv, hrun, Result.andThen]
  exact hK' _ _ (hK w' r1 r2)
theorem NameSet.asks {w : World} {b n : Nat} {pre : List (List UInt8)} (h : NameSet w b n pre) {y : List UInt8} (hy : y.length ≤ maxLen) {r : Bool} (hr : pre.any (· == y) = r) :
    (Instr.lookup 54 (.map (some b)) (.string (bs y)) false).run Tryd.prog w = .ok (.bool r) w := by
  obtain ⟨D, h1, h2, _⟩ := h
  exact lookup_bool h1 str_keyed Tryd.underlying54 Tryd.underlying4 (zero_bool w) (key_str hy) (by rw [h2.2 y, hr])
theorem wpList_asks (w : World) {ops : Array Oper} {rest : List Oper} {o : Oper} {a : Act} {Q : Exit → Act → World → Prop} (hg : o.guard = none) (m x : Operand) (hop : o.op = Op.lookup 54 m x false)
    (b n : Nat) (pre : List (List UInt8)) (hm : a.eval m = .map (some b)) (hown : NameSet w b n pre) (y : List UInt8) (hx : a.eval x = .string (bs y)) (hy : y.length ≤ maxLen) (r : Bool) (hr : pre.any (· == y) = r)
    (hK : wpList Tryd.prog ops Q rest (a.put o.dst (.bool r)) w) : wpList Tryd.prog ops Q (o :: rest) a w := by
  refine wpList_plain hg fun K' hK' => ?_
  have hrun := hown.asks hy hr
  unfold Oper.wp
  simp [execOp, hop, hm, hx, hrun, Result.andThen]
  exact hK' _ _ hK
end Go.Proofs.YtkolpbjpgobkcaaDoor
namespace Go.Proofs.YtkolpbjpgobkcaaDoor
open Go.ChangeShapes Go.WideShapes Go.ChangeAt Go.RowKit Go.Maps
set_option linter.unusedVariables false

/-- What parents says of a class. -/
def ClassD.pars (c : ClassD) : List (List UInt8) := if c.nm = objB then [] else c.su :: c.faces
theorem Own.from_ {w : World} {base : Nat} {A : Option Addr} {n c : Nat} {l : List (List UInt8)} (h : Own w base (.slice A n c) l) : ∀ a, A = some a → base ≤ a.block := fun a e => by
  subst e
  rcases h.2 with ⟨hv, _⟩ | ⟨g, cap, cur, hv, hb, _⟩
  · simp at hv
  · obtain ⟨rfl, _⟩ : a = ⟨g, 0, none⟩ ∧ _ := by simpa using hv
    exact hb

set_option maxRecDepth 20000 in
theorem parents_any (x : ClassD) (v : Value) (w : World) (h : Held w x v) (hf : x.faces.length ≤ 1000) : Calls Tryd.prog 33 #[v] w (Gives w x.pars) := by
  obtain ⟨A1, i1, j1, A2, i2, j2, A3, i3, j3, rfl, RF, _, _, NF, _, _⟩ := h
  have hl1 : x.faces.length = i1 := RF.1
  have HB0 := Lib.hid (al1 w (.cells #[.string (bs x.nm), .string (bs x.su), .slice A1 i1 j1, .bool x.face, .slice A2 i2 j2, .slice A3 i3 j3] 31))
  have HRF := Lib.hid (RF.below HB0.out)
  replace NF := Lib.hid NF
  clear RF
  by_cases hn : x.nm = objB
  · have e1 : ((bs x.nm).toList == [79, 98, 106, 101, 99, 116]) = true := lst_yes hn
    have HU := Lib.hid (show x.pars = [] by unfold ClassD.pars; rw [if_pos hn])
    clear hn
    go_enter Tryd.func33, Tryd.ntmps33
    go_wp2_with fail
    go_ret
    exact ⟨_, rfl, by rw [HU.out]; exact Own.nil_ _ _, HB0.out⟩
  · have e1 : ((bs x.nm).toList == [79, 98, 106, 101, 99, 116]) = false := lst_no hn
    have HU := Lib.hid (show x.pars = [x.su] ++ x.faces by unfold ClassD.pars; rw [if_neg hn]; rfl)
    clear hn
    go_enter Tryd.func33, Tryd.ntmps33
    go_wp2_with (first
      | (at_builtin; refine wpList_strs rfl _ _ rfl w.heap.size (.slice (some ⟨w.heap.size + 1, 0, none⟩) 1 1) [x.su] rfl (own_lit2 w _ w.heap.size x.su (Nat.le_refl _)) A1 i1 j1 x.faces rfl (HRF.out.below (al1 _ _)) NF.out (by simp; omega) (by simp; omega) ?_
         intro v1 w1 hv1 hb1 _ _
         have HV1 := Lib.hid hv1
         have HB1 := Lib.hid ((HB0.out.alloc (by simp) (.cells #[.string (bs x.su)] 9)).trans hb1)
         clear hv1 hb1))
    go_ret
    exact ⟨_, rfl, by rw [HU.out]; exact HV1.out, HB1.out⟩

theorem own_at {w : World} {base : Nat} {A : Option Addr} {n c : Nat} {l : List (List UInt8)} (h : Own w base (.slice A n c) l) {k : Nat} (hk : k < l.length) :
    ∃ g, A = some ⟨g, 0, none⟩ ∧ base ≤ g ∧ g < w.heap.size ∧ n = l.length ∧ w.cell? ⟨g, k, none⟩ = some (.string (bs l[k])) ∧ w.frozen? ⟨g, k, none⟩ = false := by
  have hlt := World.ownsRow.lt h
  have hfr := h.from_
  have hn : n = l.length := by obtain ⟨B, d, e⟩ := own_form h; simpa using (by simpa using e : _ ∧ _ ∧ _).2.1
  subst hn
  rcases h.2 with ⟨hv, h0⟩ | ⟨g, cap, cur, hv, _⟩
  · omega
  · obtain ⟨rfl, _⟩ : A = some ⟨g, 0, none⟩ ∧ _ := by simpa using hv
    have h1 := World.ownsRow.cellAt h k (by omega)
    have h2 := World.ownsRow.frozenAt h k
    refine ⟨g, rfl, hfr _ rfl, (hlt g rfl).2, rfl, ?_, h2⟩
    rw [h1, List.getElem?_map, List.getElem?_eq_getElem hk]
    rfl
theorem Own.same {w : World} {base g c : Nat} {l : List (List UInt8)} (h : Own w base (.slice (some ⟨g, 0, none⟩) l.length c) l) {k : Nat} (hk : k < l.length) : Own (w.setCell ⟨g, k, none⟩ (.string (bs l[k]))) base (.slice (some ⟨g, 0, none⟩) l.length c) l := by
  have := (World.ownsRow.stored h k (.string (bs l[k]))).1
  have e : (l.map strV).set k (.string (bs l[k])) = l.map strV := by
    apply List.ext_getElem
    · simp
    · intro i h1 h2
      rw [List.getElem_set]
      split
      · rename_i e; subst e; simp [strV]
      · rfl
  unfold Own
  rw [← e]
  exact this

set_option maxRecDepth 20000 in
set_option maxHeartbeats 4000000 in
theorem copied_any (l : List (List UInt8)) (base : Nat) (v : Value) (w : World) (h : Own w base v l) (hb : base ≤ w.heap.size) (hu : ∀ x ∈ l, x.length ≤ 140737488351232) (hl : l.length ≤ 1000) :
    Calls Tryd.prog 17 #[v] w fun e w' => e = .returned v ∧ Own w' base v l ∧ Below base w w' := by
  obtain ⟨A, c, rfl⟩ := h.form
  have HO := Lib.hid h
  have HU := Lib.hid hu
  clear h hu
  go_enter Tryd.func17, Tryd.ntmps17
  go_wp2_with fail
  go_loopw [3, 4, 7] (fun _ _ i wr => ∃ k : Nat, k ≤ l.length ∧ i = .int .i64 k ∧ Hid (Own wr base (.slice A l.length c) l) ∧ Hid (Below base w wr)) (fun _ _ i _ => l.length - (intOf i).toNat)
  case atStart => exact ⟨0, Nat.zero_le _, rfl, HO, Lib.hid (Below.refl _ _)⟩
  case round =>
    obtain ⟨k, hk, rfl, HOr, HB⟩ := hrel
    by_cases hlt : k < l.length
    · obtain ⟨g, rfl, hg, hgw, _, hc, hf⟩ := own_at HOr.out hlt
      have hx := HU.out _ (List.getElem_mem hlt)
      have HCl := Lib.hid (clone_any (bs l[k]) wr (by rw [bs_size]; omega))
      have HS := Lib.hid (fun (W : World) (h : Own W base (.slice (some ⟨g, 0, none⟩) l.length c) l) => h.same hlt)
      have hbs := HB.out.size
      generalize l[k] = x at *
      go_wp2_with (first
        | (go_at_call 28; (with_reducible refine HCl.out.mono ?_); rintro e w2 ⟨rfl, hb2⟩
           have hf2 := (hb2.frozen (p := ⟨g, k, none⟩) hgw).trans hf
           have hc2 := (hb2.cell (p := ⟨g, k, none⟩) hgw).trans hc
           have HO2 := Lib.hid (HS.out _ (HOr.out.below hb2))
           have HB2 := Lib.hid ((HB.out.trans (hb2.mono (by omega))).setCell (p := ⟨g, k, none⟩) hg (.string (bs x)))
           clear hb2))
      go_roundw
      case rel => exact ⟨k + 1, by omega, by go_num, HO2, HB2⟩
      case measure => first | (simp [intOf]; omega) | simp [intOf]
    · obtain rfl : k = l.length := by omega
      go_wp2
      go_ret
      exact ⟨rfl, HOr.out, HB.out⟩
end Go.Proofs.YtkolpbjpgobkcaaDoor
namespace Go.Proofs.YtkolpbjpgobkcaaDoor
open Go.ChangeShapes Go.WideShapes Go.ChangeAt Go.RowKit Go.Maps
set_option linter.unusedVariables false
attribute [local go_sem] eqGuard_errV_nil eqGuard_errV_iface eql_errV_nil neq_errV_nil eql_errV_form

/-- What collect says; the classes lie in w0. -/
def CollectSays (w0 w : World) (l : List ClassD) (e : Ending) (w' : World) : Prop :=
  Below w.heap.size w w' ∧ ((10 < l.length ∧ e = .returned (.tuple #[.map none, errV 4])) ∨ (l.length ≤ 10 ∧ firstAt memF l ≠ 0 ∧ e = .returned (.tuple #[.map none, errV (firstAt memF l)])) ∨
    (l.length ≤ 10 ∧ firstAt memF l = 0 ∧ ∃ b, e = .returned (.tuple #[.map (some b), .nilIface]) ∧ w.heap.size ≤ b ∧ ClassMap w0 w' b 12 l))
theorem short_obj : objB.length ≤ maxLen := by decide
theorem short_flt : fltB.length ≤ maxLen := by decide

set_option maxRecDepth 20000 in
set_option maxHeartbeats 8000000 in
theorem collect_any (l : List ClassD) (A : Option Addr) (n c : Nat) (w0 w : World) (h0w : Below w0.heap.size w0 w) (T : Tab w) (R : ClassRow w0 A n c l) (hu : ∀ x ∈ l, x.upto 140737488351232) (hw : ∀ x ∈ l, x.wf) (hn : n ≤ 140737488351232) :
    Calls Tryd.prog 22 #[.slice A n c] w (CollectSays w0 w l) := by
  have hmm := @run_makeMap Tryd.prog
  have hl : l.length = n := R.1
  by_cases h10 : 10 < n
  · have HV := Lib.hid (show 10 < l.length by omega)
    clear hl R hu hw T h0w
    go_enter Tryd.func22, Tryd.ntmps22
    go_wp2_with fail
    go_ret2
    exact ⟨Below.refl _ _, .inl ⟨HV.out, rfl⟩⟩
  · have h10' : n ≤ 10 := by omega
    have HL := Lib.hid hl
    have HR := Lib.hid R
    have HU := Lib.hid hu
    have HW := Lib.hid hw
    have HT0 := Lib.hid T
    have H0w := Lib.hid h0w
    have HM0 := Lib.hid (World.ownsMap_made w Tryd.prog 9 readV)
    have HB0 := Lib.hid (al1 w (.map #[] 0))
    clear hl R hu hw T h0w
    go_enter Tryd.func22, Tryd.ntmps22
    go_wp2_with (first
      | (refine wpList_insert_v _ rfl _ _ _ rfl w.heap.size 0 (.map []) rfl HM0.out (by unfold maxLen; omega) objB rfl short_obj objV rfl ?_
         intro w1 hown1 hg1
         have HM1 := Lib.hid hown1
         have HB1 := Lib.hid (HB0.out.grown hg1 HB0.out.size (fun j hj => by cases hj; exact Nat.le_refl _))
         clear hown1 hg1)
      | (refine wpList_insert_v _ rfl _ _ _ rfl w.heap.size 1 _ rfl HM1.out (by unfold maxLen; omega) fltB rfl short_flt fltV rfl ?_
         intro w2 hown2 hg2
         have HM2 := Lib.hid (show ClassMap w0 w2 w.heap.size 2 [] from ⟨_, hown2, map_start w0⟩)
         have HB2 := Lib.hid (HB1.out.grown hg2 HB1.out.size (fun j hj => by cases hj; exact Nat.le_refl _))
         clear hown2 hg2))
    go_loopw [6, 7, 8, 9, 20] (fun _ _ _ _ i wr => ∃ k : Nat, k ≤ n ∧ i = .int .i64 k ∧ Hid (CleanTo memF l k) ∧ Hid (ClassMap w0 wr w.heap.size (k + 2) (l.take k)) ∧ Hid (Below w.heap.size w wr)) (fun _ _ _ _ i _ => n - (intOf i).toNat)
    case atStart => exact ⟨0, Nat.zero_le _, rfl, Lib.hid (CleanTo.start _ _), HM2, HB2⟩
    case round =>
      obtain ⟨k, hk, rfl, HC, HM, HB⟩ := hrel
      by_cases hlt : k < n
      · obtain ⟨b1, o1, rfl, hb1, hx1⟩ := SRow.at_ HR.out hlt
        have hk1 : k < l.length := by rw [HL.out]; exact hlt
        have hxu := HU.out _ (List.getElem_mem hk1)
        have hxw := HW.out _ (List.getElem_mem hk1)
        have HFa := Lib.hid (show memF (l.take k) l[k] ≠ 0 → firstAt memF l ≠ 0 ∧ firstAt memF l = memF (l.take k) l[k] from fun h => by
          have e := HC.out.fault hk1 h
          exact ⟨by rw [e]; exact h, e⟩)
        have HNx := Lib.hid (show memF (l.take k) l[k] = 0 → _ from fun h => HC.out.next hk1 h)
        have htk := List.take_succ_eq_append_getElem hk1
        generalize l.take k = pre at *
        generalize l[k] = x at *
        have HTk := Lib.hid htk
        clear htk
        obtain ⟨c0, c1, ⟨A1, i1, j1, c2, R1, N1⟩, c3, ⟨A2, i2, j2, c4, R2, N2⟩, ⟨A3, i3, j3, c5, R3, N3⟩⟩ := hx1
        have HBw := Lib.hid (bnext H0w.out HB.out)
        replace c0 := (HBw.out.cell (p := ⟨b1, o1 + k * 6, none⟩) hb1).trans c0
        replace c1 := (HBw.out.cell (p := ⟨b1, o1 + k * 6 + 1, none⟩) hb1).trans c1
        replace c2 := (HBw.out.cell (p := ⟨b1, o1 + k * 6 + 2, none⟩) hb1).trans c2
        replace c3 := (HBw.out.cell (p := ⟨b1, o1 + k * 6 + 3, none⟩) hb1).trans c3
        replace c4 := (HBw.out.cell (p := ⟨b1, o1 + k * 6 + 4, none⟩) hb1).trans c4
        replace c5 := (HBw.out.cell (p := ⟨b1, o1 + k * 6 + 5, none⟩) hb1).trans c5
        have HH := Lib.hid (show Held w0 x _ from ⟨A1, i1, j1, A2, i2, j2, A3, i3, j3, rfl, R1, R2, R3, N1, N2, N3⟩)
        have HB3 := Lib.hid (HB.out.alloc HB.out.size (.cells #[.string (bs x.nm), .string (bs x.su), .slice A1 i1 j1, .bool x.face, .slice A2 i2 j2, .slice A3 i3 j3] 31))
        have HBw3 := Lib.hid (bnext H0w.out HB3.out)
        have HCl := class_checks x A1 i1 j1 A2 i2 j2 A3 i3 j3 _ (HT0.out.below HB3.out) (R1.below HBw3.out) (R2.below HBw3.out) (R3.below HBw3.out) N1 N2 N3 hxu hxw
        unfold classV at HCl
        have hnm : x.nm.length ≤ maxLen := by have := hxu.1; unfold maxLen; omega
        have HX := Lib.hid (cbox_at wr x A1 i1 j1 A2 i2 j2 A3 i3 j3 31 (0, 0))
        have hzr := HB.out.size
        clear R1 R2 R3 N1 N2 N3 hxu hxw
        by_cases h0 : classF x = 0
        · rw [h0] at HCl
          replace HCl := Lib.hid HCl
          obtain ⟨D, hown, hsay⟩ := HM.out
          obtain ⟨hhas, v, hat, hhv⟩ := hsay.2 x.nm
          obtain ⟨A4, i4, j4, A5, i5, j5, A6, i6, j6, rfl, _⟩ := hhv
          have HO := Lib.hid hown
          have HAt := Lib.hid hat
          clear hown hat
          cases hkn : knownB pre x.nm with
          | true =>
            have HV := Lib.hid (HFa.out (by rw [memF_twice h0 hkn]; decide))
            rw [memF_twice h0 hkn] at HV
            rw [hkn] at hhas
            have HHa := Lib.hid hhas
            have hkm := hnm
            replace hnm := Lib.hid hnm
            clear HFa HNx h0 hkn hhas hsay hkm
            go_wp2_with (first
              | (go_at_call 32; (with_reducible refine HCl.out.mono ?_); rintro e w2 ⟨rfl, hb⟩
                 obtain ⟨q0, q1, q2, q3, q4, q5, q6⟩ := HX.out.below hb
                 have HB4 := Lib.hid (bnext HB3.out hb)
                 have HO4 := Lib.hid (HO.out.kept (below_grown (bnext (al1 wr _) hb)) (by simp))
                 have hz4 := HB4.out.size
                 clear hb)
              | (at_lookup; refine wpList_lookup_vok _ rfl _ _ rfl w.heap.size _ D rfl HO4.out x.nm rfl hnm.out _ HAt.out true HHa.out ?_))
            go_ret2
            exact ⟨HB4.out.alloc hz4 _, .inr (.inl ⟨by rw [HL.out]; exact h10', HV.out.1, by rw [HV.out.2]; rfl⟩)⟩
          | false =>
            have HN2 := Lib.hid (HNx.out (memF_none h0 hkn))
            have HPut := Lib.hid (map_put hsay hkn HH.out)
            rw [hkn] at hhas
            have HHa := Lib.hid hhas
            replace hnm := Lib.hid hnm
            clear HFa HNx h0 hkn hhas hsay
            go_wp2_with (first
              | (go_at_call 32; (with_reducible refine HCl.out.mono ?_); rintro e w2 ⟨rfl, hb⟩
                 obtain ⟨q0, q1, q2, q3, q4, q5, q6⟩ := HX.out.below hb
                 have HB4 := Lib.hid (bnext HB3.out hb)
                 have HO4 := Lib.hid (HO.out.kept (below_grown (bnext (al1 wr _) hb)) (by simp))
                 have hz4 := HB4.out.size
                 have HB5 := Lib.hid (HB4.out.alloc hz4 (.cells #[.string (bs (classD pre x.nm).nm), .string (bs (classD pre x.nm).su), .slice A4 i4 j4, .bool (classD pre x.nm).face, .slice A5 i5 j5, .slice A6 i6 j6] 31))
                 have HO5 := Lib.hid (HO4.out.alloc (.cells #[.string (bs (classD pre x.nm).nm), .string (bs (classD pre x.nm).su), .slice A4 i4 j4, .bool (classD pre x.nm).face, .slice A5 i5 j5, .slice A6 i6 j6] 31))
                 have hz5 := HB5.out.size
                 clear hb)
              | (at_lookup; refine wpList_lookup_vok _ rfl _ _ rfl w.heap.size _ D rfl HO4.out x.nm rfl hnm.out _ HAt.out false HHa.out ?_)
              | (at_mapUpdate; refine wpList_update_v _ rfl _ _ _ rfl w.heap.size _ D rfl HO5.out (by unfold maxLen; omega) x.nm rfl hnm.out (.agg #[.string (bs x.nm), .string (bs x.su), .slice A1 i1 j1, .bool x.face, .slice A2 i2 j2, .slice A3 i3 j3]) rfl ?_
                 intro w6 hown6 hg6
                 have HM6 := Lib.hid (show ClassMap w0 w6 w.heap.size (k + 1 + 2) (l.take (k + 1)) from ⟨_, by rw [show k + 1 + 2 = k + 2 + 1 by omega]; exact hown6, by rw [HTk.out]; exact HPut.out⟩)
                 have HB6 := Lib.hid (HB5.out.grown hg6 hz5 (fun j hj => by cases hj; exact Nat.le_refl _))
                 clear hown6 hg6))
            go_roundw
            case rel => exact ⟨k + 1, by omega, by go_num, HN2, HM6, HB6⟩
            case measure => first | (simp [intOf]; omega) | simp [intOf]
        · have HV := Lib.hid (HFa.out (by rw [memF_cls h0]; exact h0))
          rw [memF_cls h0] at HV
          have hne : (classF x != 0) = true := by rw [bne_iff_ne]; exact h0
          replace HCl := Lib.hid HCl
          clear HFa HNx h0
          go_wp2_with (first
            | (go_at_call 32; (with_reducible refine HCl.out.mono ?_); rintro e w2 ⟨rfl, hb⟩
               have HB4 := Lib.hid (bnext HB3.out hb)
               clear hb))
          go_ret2
          exact ⟨HB4.out, .inr (.inl ⟨by rw [HL.out]; exact h10', HV.out.1, by rw [HV.out.2]; rfl⟩)⟩
      · obtain rfl : k = n := by omega
        have HV := Lib.hid (HC.out.all HL.out)
        have hm := HM.out
        rw [List.take_of_length_le (by rw [HL.out]; exact Nat.le_refl _)] at hm
        have HM2 := Lib.hid (hm.mono (show k + 2 ≤ 12 by omega))
        clear hm
        go_wp2_with fail
        go_ret2
        exact ⟨HB.out, .inr (.inr ⟨by rw [HL.out]; exact h10', HV.out, _, rfl, Nat.le_refl _, HM2.out⟩)⟩
end Go.Proofs.YtkolpbjpgobkcaaDoor
