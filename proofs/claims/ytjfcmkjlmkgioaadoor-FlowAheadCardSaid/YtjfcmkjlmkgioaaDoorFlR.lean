/- Rows of indices and of bools: a new one, one behind another, what a block holds that the call writes into; the comparison of two lists of indices; slices.Contains. -/
import Derived.Test.YtjfcmkjlmkgioaaDoorRow
import Derived.Test.YtjfcmkjlmkgioaaDoorLaw
import Derived.Test.YtjfcmkjlmkgioaaDoorShelf
import Derived.Deep.QuietTactic
import Derived.BigQuiet
import Derived.Deep.OwnRows
import Derived.Laws.AppendOwnNone
namespace Go.Proofs.YtjfcmkjlmkgioaaDoor
open Go.ChangeShapes Go.WideShapes Go.ChangeAt Go.RowKit
set_option linter.unusedVariables false

def natV (k : Nat) : Value := .int .i64 (k : Int)
theorem nat_one (l : List Nat) : ∀ u ∈ l.map natV, u.oneCell' = true := by
  intro u hu
  obtain ⟨x, _, rfl⟩ := List.mem_map.1 hu
  rfl
theorem int_info : (Tryd.prog.info? 3).map (fun i => (i.zero, i.size, i.bytes)) = some (some (.int .i64 0), 1, 8) := by kernel_rfl
theorem add_pl (b o i : Nat) : (⟨b, o, none⟩ : Addr).add i = ⟨b, o + i, none⟩ := by unfold Addr.add; split <;> simp_all
theorem Row.fresh (w : World) (cs : Array Value) (t : TypeId) (x : Nat × Nat) : Row (w.alloc (.cells cs t x)) (some ⟨w.heap.size, 0, none⟩) cs.size cs.size cs.toList := by
  refine ⟨by simp, Nat.le_refl _, fun _ => ⟨_, _, rfl, by simp, fun j u hu => ?_⟩⟩
  have e := World.cell?_alloc_mark w cs t x (0 + j)
  rw [Nat.zero_add] at e ⊢
  rw [e]
  simpa using hu
theorem Row.nat1 (w : World) (k : Nat) (t : TypeId) (x : Nat × Nat) : Row (w.alloc (.cells #[.int .i64 (k : Int)] t x)) (some ⟨w.heap.size, 0, none⟩) 1 1 ([k].map natV) := Row.fresh w #[.int .i64 (k : Int)] t x
theorem Row.nat2 (w : World) (k j : Nat) (t : TypeId) (x : Nat × Nat) : Row (w.alloc (.cells #[.int .i64 (k : Int), .int .i64 (j : Int)] t x)) (some ⟨w.heap.size, 0, none⟩) 2 2 ([k, j].map natV) := Row.fresh w #[.int .i64 (k : Int), .int .i64 (j : Int)] t x
theorem own_nat1 (w : World) (k : Nat) (base : Nat) (hb : base ≤ w.heap.size) (e : TypeId) : (w.alloc (.cells #[.int .i64 (k : Int)] e)).ownsRow base e 1 (.slice (some ⟨w.heap.size, 0, none⟩) 1 1) [k].length ([k].map natV) :=
  World.ownsRow_lit (base := base) (e := e) (size := 1) w #[.int .i64 (k : Int)] 1 hb (by decide) rfl
theorem own_nat2 (w : World) (k j : Nat) (base : Nat) (hb : base ≤ w.heap.size) (e : TypeId) : (w.alloc (.cells #[.int .i64 (k : Int), .int .i64 (j : Int)] e)).ownsRow base e 1 (.slice (some ⟨w.heap.size, 0, none⟩) 2 2) [k, j].length ([k, j].map natV) :=
  World.ownsRow_lit (base := base) (e := e) (size := 1) w #[.int .i64 (k : Int), .int .i64 (j : Int)] 2 hb (by decide) rfl
theorem own_less {w : World} {base base' size n : Nat} {e : TypeId} {v : Value} {xs : List Value} (h : w.ownsRow base e size v n xs) (hb : base' ≤ base) : w.ownsRow base' e size v n xs :=
  ⟨h.1, h.2.elim Or.inl (fun ⟨g, cap, cur, hv, hg, r⟩ => Or.inr ⟨g, cap, cur, hv, Nat.le_trans hb hg, r⟩)⟩
/-- A row of the call's own, as a row. -/
theorem own_row {w : World} {base n : Nat} {e : TypeId} {v : Value} {xs : List Value} (h : w.ownsRow base e 1 v n xs) : ∃ A c, v = .slice A n c ∧ Row w A n c xs ∧ (∀ a, A = some a → base ≤ a.block ∧ a.block < w.heap.size) := by
  obtain ⟨A, c, rfl⟩ := own_form h
  refine ⟨A, c, rfl, Row.own h, fun a ha => ?_⟩
  rcases h.2 with ⟨hv, h0⟩ | ⟨g, cap, cur, hv, hb, hg, _⟩
  · rw [ha] at hv; cases hv
  · obtain ⟨rfl, _, _⟩ : A = some ⟨g, 0, none⟩ ∧ n = n ∧ c = cap := by simpa using hv
    obtain rfl := Option.some.inj ha
    refine ⟨hb, ?_⟩
    rcases Nat.lt_or_ge g w.heap.size with hlt | hge
    · exact hlt
    · rw [Array.getElem?_eq_none hge] at hg; cases hg

section
variable {w : World} {ops : Array Oper} {rest : List Oper} {o : Oper} {a : Act} {Q : Exit → Act → World → Prop}
/-- Indices behind indices: the first a row of the call's own, the second any row. -/
theorem wpList_nats (hgd : o.guard = none) (s x : Operand) (ho : o.op = .call { callee := .builtin .append, args := #[s, x], argTypes := #[30, 30] })
    (base : Nat) (v : Value) (xs ys : List Nat) (hs : a.eval s = v) (hown : w.ownsRow base 3 1 v xs.length (xs.map natV))
    (A : Option Addr) (m c : Nat) (hx : a.eval x = .slice A m c) (R : Row w A m c (ys.map natV)) (hm : 0 < m) (hn : xs.length + m ≤ 1099511627776) (hbase : base ≤ w.heap.size)
    (h : ∀ v' w', w'.ownsRow base 3 1 v' (xs ++ ys).length ((xs ++ ys).map natV) → Below base w w' → wpList Tryd.prog ops Q rest (a.put o.dst v') w') : wpList Tryd.prog ops Q (o :: rest) a w := by
  obtain ⟨i0, hi, hz0, hz1, hz2⟩ := info_parts int_info
  obtain ⟨h1, h2, h3⟩ := R
  obtain ⟨b, o', rfl, hb, hc⟩ := h3 hm
  have hy : ys.length = m := by simpa using h1
  refine wpList_append_own _ hgd s x 30 ho base 3 i0 (.int .i64 0) 1 8 Tryd.underlying30 hi hz0 hz1 hz2 rfl (by decide) v xs.length (xs.map natV) hs hown ⟨b, o', none⟩ m c (ys.map natV) hx (by simp [hy]) (fun j u hu => by rw [add_pl]; exact hc j u hu) (nat_one ys) (by unfold maxLen; omega) (by omega) hbase ?_
  intro v' w' k1 k2 _
  exact h v' w' (by rw [List.map_append, List.length_append, hy]; exact k1) ((Below.refl _ _).grown k2 hbase (fun q hq => (hown.lt q hq).1))
/-- The same, where the second may be none. -/
theorem wpList_nats_any (hgd : o.guard = none) (s x : Operand) (ho : o.op = .call { callee := .builtin .append, args := #[s, x], argTypes := #[30, 30] })
    (base : Nat) (v : Value) (xs ys : List Nat) (hs : a.eval s = v) (hown : w.ownsRow base 3 1 v xs.length (xs.map natV))
    (A : Option Addr) (m c : Nat) (hx : a.eval x = .slice A m c) (R : Row w A m c (ys.map natV)) (hA : A = none → m = 0 ∧ c = 0) (hn : xs.length + m ≤ 1099511627776) (hbase : base ≤ w.heap.size)
    (h : ∀ v' w', w'.ownsRow base 3 1 v' (xs ++ ys).length ((xs ++ ys).map natV) → Below base w w' → wpList Tryd.prog ops Q rest (a.put o.dst v') w') : wpList Tryd.prog ops Q (o :: rest) a w := by
  rcases Nat.eq_zero_or_pos m with rfl | hm
  · obtain ⟨i0, hi, hz0, hz1, hz2⟩ := info_parts int_info
    obtain rfl : ys = [] := by simpa using R.1
    rw [List.append_nil] at h
    cases A with
    | none =>
      obtain ⟨_, rfl⟩ := hA rfl
      exact wpList_append_own_none hgd s x 30 ho base 3 i0 1 Tryd.underlying30 hi v xs.length (xs.map natV) hs hown hx (h v w hown (Below.refl _ _))
    | some ad =>
      refine wpList_append_own _ hgd s x 30 ho base 3 i0 (.int .i64 0) 1 8 Tryd.underlying30 hi hz0 hz1 hz2 rfl (by decide) v xs.length (xs.map natV) hs hown ad 0 c [] hx rfl (fun j u hu => by simp at hu) (fun u hu => by cases hu) (by unfold maxLen; omega) (by omega) hbase ?_
      intro v' w' k1 k2 _
      rw [List.append_nil] at k1
      exact h v' w' k1 ((Below.refl _ _).grown k2 hbase (fun q hq => (hown.lt q hq).1))
  · exact wpList_nats hgd s x ho base v xs ys hs hown A m c hx R hm hn hbase h
end

/-! A block of bools that the call writes into; all other blocks stay. -/
def Found (w : World) (g n : Nat) (f : Nat → Bool) : Prop := w.rowIs g 4 n (fun i => .bool (f i))
def Only (g : Nat) (w w' : World) : Prop := Below g w w' ∧ ∀ b, b < w.heap.size → b ≠ g → w'.heap[b]? = w.heap[b]?
theorem Only.refl (g : Nat) (w : World) : Only g w w := ⟨Below.refl _ _, fun _ _ _ => rfl⟩
theorem Only.trans {g : Nat} {a b c : World} (h : Only g a b) (k : Only g b c) : Only g a c :=
  ⟨h.1.trans k.1, fun x hx hg => (k.2 x (Nat.lt_of_lt_of_le hx h.1.size) hg).trans (h.2 x hx hg)⟩
theorem Only.below {g : Nat} {a b c : World} (h : Only g a b) (k : Below b.heap.size b c) (hg : g < a.heap.size) : Only g a c :=
  h.trans ⟨k.mono (Nat.le_trans (Nat.le_of_lt hg) h.1.size), fun x hx _ => k.block x hx⟩
theorem Only.set {g : Nat} {a w : World} (h : Only g a w) (j : Nat) (v : Value) : Only g a (w.setCell ⟨g, j, none⟩ v) :=
  ⟨h.1.setCell (Nat.le_refl _) v, fun x hx hg => (Below.heap_setCell _ _ _ _ hg).trans (h.2 x hx hg)⟩
theorem Only.cell {g : Nat} {w w' : World} (h : Only g w w') {p : Addr} (hp : p.block < w.heap.size) (hg : p.block ≠ g) : w'.cell? p = w.cell? p := World.cell?_of_block (w := w) (h.2 p.block hp hg)
theorem Only.base {g B : Nat} {w w' : World} (h : Only g w w') (hB : B ≤ g) : Below B w w' := h.1.mono hB
theorem Row.only {w w' : World} {A : Option Addr} {n c g : Nat} {cs : List Value} (R : Row w A n c cs) (hA : ∀ a, A = some a → a.block ≠ g) (h : Only g w w') : Row w' A n c cs :=
  ⟨R.1, R.2.1, fun hn => by
    obtain ⟨b, o, e, hb, hc⟩ := R.2.2 hn
    have hne : b ≠ g := hA _ e
    exact ⟨b, o, e, Nat.lt_of_lt_of_le hb h.1.size, fun j u hu => (h.cell (p := ⟨b, o + j, none⟩) hb hne).trans (hc j u hu)⟩⟩
theorem Found.cell {w : World} {g n : Nat} {f : Nat → Bool} (h : Found w g n f) {k : Nat} (hk : k < n) : w.cell? ⟨g, k, none⟩ = some (.bool (f k)) := World.rowIs.cell h hk
theorem Found.frozen {w : World} {g n : Nat} {f : Nat → Bool} (h : Found w g n f) (k : Nat) : w.frozen? ⟨g, k, none⟩ = false := World.rowIs.frozen h k
theorem Found.lt {w : World} {g n : Nat} {f : Nat → Bool} (h : Found w g n f) : g < w.heap.size := World.rowIs.lt h
theorem Found.below {w w' : World} {g n : Nat} {f : Nat → Bool} (h : Found w g n f) (hb : Below w.heap.size w w') : Found w' g n f := World.rowIs.of_block h (hb.block g h.lt)
theorem Found.within {w w' : World} {g n B : Nat} {f : Nat → Bool} (h : Found w g n f) (hb : Below B w w') (hg : g < B) : Found w' g n f := World.rowIs.of_block h (hb.block g hg)
theorem Found.only {w w' : World} {g g' n : Nat} {f : Nat → Bool} (h : Found w g n f) (hb : Only g' w w') (hg : g ≠ g') : Found w' g n f := World.rowIs.of_block h (hb.2 g h.lt hg)
theorem Found.set {w : World} {g n : Nat} {f : Nat → Bool} (h : Found w g n f) (k : Nat) (b : Bool) : Found (w.setCell ⟨g, k, none⟩ (.bool b)) g n (fun j => if j = k then b else f j) := by
  refine World.rowIs.congr (World.rowIs.set h k (.bool b)) fun i hi => ?_
  split <;> simp_all
theorem Found.alloc {w : World} {g n : Nat} {f : Nat → Bool} (h : Found w g n f) (o : Obj) : Found (w.alloc o) g n f := World.rowIs.alloc h o
theorem found_made (w : World) (n : Nat) : Found (w.alloc (.cells (madeCells #[.bool false] n) 4)) w.heap.size n (fun _ => false) := World.rowIs_made w (.bool false) n _

def putB (s : Nat → Bool) (t : Nat) : Nat → Bool := fun j => if j = t then true else s j
theorem putB_mono (s : Nat → Bool) (t i : Nat) (h : s i = true) : putB s t i = true := by unfold putB; split; rfl; exact h
theorem putB_at (s : Nat → Bool) (t : Nat) : putB s t t = true := by simp [putB]
theorem Found.put {w : World} {g n : Nat} {f : Nat → Bool} (h : Found w g n f) (k : Nat) : Found (w.setCell ⟨g, k, none⟩ (.bool true)) g n (putB f k) := h.set k true
/-- slices.Contains, of a row. -/
theorem contains_row (B : Option Addr) (m d : Nat) (xs : List Nat) (x : Int) (w : World) (R : Row w B m d (xs.map natV)) (hm : m ≤ 1099511627776) :
    Calls Tryd.prog 37 #[.slice B m d, .int .i64 x] w fun e w' => e = .returned (.bool (xs.any (fun y => (y : Int) == x))) ∧ w = w' := by
  have hl : xs.length = m := by simpa using R.1
  rcases Nat.eq_zero_or_pos m with rfl | hp
  · obtain rfl : xs = [] := by simpa using hl
    exact (Tryd.slices_Contains_int_empty B d x w).mono fun _ _ ⟨h1, h2⟩ => ⟨h1, h2.symm⟩
  · obtain ⟨b, o, rfl, hb, hc⟩ := R.2.2 hp
    refine (Tryd.slices_Contains_int b o m d (xs.map (fun (y : Nat) => (y : Int))) x w (by simp [hl]) (by omega) (fun j hj => ?_)).mono fun _ _ ⟨h1, h2⟩ => ⟨?_, h2.symm⟩
    · have hj' : j < xs.length := by simpa using hj
      rw [hc j (natV xs[j]) (by simp [hj'])]
      simp [natV, List.getD, hj']
    · rw [h1]
      apply ret_bool
      rw [List.take_of_length_le (by simp [hl]), Bool.eq_iff_iff, List.contains_iff_mem, List.any_eq_true]
      simp

/-- Two lists of indices compared. -/
theorem take_next2 {α : Type} {l m : List α} {k : Nat} (h : k < l.length) (h' : k < m.length) (hk : l.take k = m.take k) (he : l[k] = m[k]) : l.take (k + 1) = m.take (k + 1) := by
  rw [List.take_succ_eq_append_getElem h, List.take_succ_eq_append_getElem h', hk, he]
set_option maxRecDepth 20000 in
set_option maxHeartbeats 2000000 in
theorem ints_any (A B : Option Addr) (n m c d : Nat) (xs ys : List Nat) (w : World) (ha : Row w A n c (xs.map natV)) (hb : Row w B m d (ys.map natV)) (hm : n < 4611686018427387904) :
    Calls Tryd.prog 17 #[.slice A n c, .slice B m d] w fun e w' => e = .returned (.bool (decide (xs = ys))) ∧ ∃ k, w' = w.drewN k := by
  have hx : xs.length = n := by simpa using ha.1
  have hy : ys.length = m := by simpa using hb.1
  by_cases hnm : n = m
  · subst hnm
    have HX := Lib.hid hx
    have HY := Lib.hid hy
    have HA := Lib.hid ha
    have HB := Lib.hid hb
    clear hx hy ha hb
    go_enter Tryd.func17, Tryd.ntmps17
    go_wp2
    go_loopw [5] (fun i wr => ∃ k j : Nat, k ≤ n ∧ i = .int .i64 k ∧ Hid (xs.take k = ys.take k) ∧ wr = w.drewN j) (fun i _ => n - (intOf i).toNat)
    case atStart => exact ⟨0, 0, Nat.zero_le _, rfl, Lib.hid (by simp), rfl⟩
    case round =>
      obtain ⟨k, j, hk, rfl, HT, rfl⟩ := hrel
      by_cases hlt : k < n
      · obtain ⟨b1, o1, u1, rfl, hb1, hu1, hc1⟩ := HA.out.at_ hlt
        obtain ⟨b2, o2, u2, rfl, hb2, hu2, hc2⟩ := HB.out.at_ hlt
        have h1 : k < xs.length := by rw [HX.out]; exact hlt
        have h2 : k < ys.length := by rw [HY.out]; exact hlt
        obtain rfl : natV xs[k] = u1 := by simpa [h1] using hu1
        obtain rfl : natV ys[k] = u2 := by simpa [h2] using hu2
        have HT2 := Lib.hid (fun he => take_next2 h1 h2 HT.out he)
        have HN := Lib.hid (fun he : xs[k] ≠ ys[k] => (show decide (xs = ys) = false from decide_eq_false (fun h => he (by subst h; rfl))))
        clear hu1 hu2
        generalize xs[k] = x at *
        generalize ys[k] = y at *
        unfold natV at hc1 hc2
        by_cases he : x = y
        · have HT3 := Lib.hid (HT2.out he)
          have hne : ((x : Int) != (y : Int)) = false := by simp [he]
          clear HT2 HN he
          go_wp2
          go_quiet (fail)
          go_wp2
          go_roundw
          case rel => exact ⟨k + 1, _, by omega, by go_num, HT3, rfl⟩
          case measure => first | (simp [intOf]; omega) | simp [intOf]
        · have HN2 := Lib.hid (HN.out he)
          have hne : ((x : Int) != (y : Int)) = true := by simp; omega
          clear HT2 HN he
          go_wp2
          go_quiet (fail)
          go_wp2
          go_ret
          exact ⟨ret_bool HN2.out.symm, _, World.drewN_drewN ..⟩
      · obtain rfl : k = n := by omega
        go_wp2
        go_ret
        refine ⟨ret_bool ?_, ⟨_, rfl⟩⟩
        have h := HT.out
        rw [List.take_of_length_le (by rw [HX.out]; exact Nat.le_refl _), List.take_of_length_le (by rw [HY.out]; exact Nat.le_refl _)] at h
        simp [h]
  · have hne : ((n : Int) != m) = true := by rw [bne_iff_ne]; omega
    have HN := Lib.hid (show decide (xs = ys) = false from decide_eq_false (fun h => hnm (by rw [← hx, ← hy, h])))
    clear hx hy hnm ha hb
    go_enter Tryd.func17, Tryd.ntmps17
    go_wp2
    go_ret
    exact ⟨ret_bool HN.out.symm, 0, rfl⟩
end Go.Proofs.YtjfcmkjlmkgioaaDoor
