/- What package join must say; the facts on joins of texts. -/
import Derived.Test.YtnmfcckahglbbaaGreatDoorGJ
import Derived.Test.YtnmfcckahglbbaaGreatDoorKiO
namespace Go.Proofs.YtnmfcckahglbbaaGreatDoor
open Go.ChangeShapes Go.WideShapes Go.ChangeAt Go.RowKit
set_option linter.unusedVariables false

/-- What Join says of two texts of kinds. -/
def JoinT (l : List ClassD) (a b k : List UInt8) : Prop := ∃ x y : KindD, x.ok ∧ y.ok ∧ x.text = a ∧ y.text = b ∧ k = (joinK l x y).text
theorem joinT_iff {l : List ClassD} {x y : KindD} (hx : x.ok) (hy : y.ok) {k : List UInt8} : JoinT l x.text y.text k ↔ k = (joinK l x y).text := by
  constructor
  · rintro ⟨a, b, ha, hb, e1, e2, h⟩
    rw [text_inj ha hx e1, text_inj hb hy e2] at h
    exact h
  · exact fun h => ⟨x, y, hx, hy, rfl, rfl, h⟩
def JoinJoins : Prop := ∀ (l : List ClassD) (q : Nat) (a b k : List UInt8) (A : Option Addr) (n c : Nat) (w : World), WorldIs l q → (kindsQ l q a b = 0 → JoinT l a b k) → (kindsQ l q a b ≠ 0 → k = []) → Tab w → ClassRow w A n c l → (A = none → n = 0 ∧ c = 0) →
  (∀ x ∈ l, x.upto 140737488351232) → (∀ x ∈ l, x.wf) → n ≤ 140737488351232 → a.length ≤ 140737488355328 → b.length ≤ 140737488355328 →
  Calls Tryz.prog 9 #[.slice A n c, .string (bs a), .string (bs b)] w fun e w' => e = .returned (.tuple #[.string (bs k), errV (kindsQ l q a b)]) ∧ Below w.heap.size w w'
def JoinBelows : Prop := ∀ (l : List ClassD) (q : Nat) (a b : List UInt8) (β : Bool) (A : Option Addr) (n c : Nat) (w : World), WorldIs l q → (β = true ↔ kindsQ l q a b = 0 ∧ JoinT l a b b) → Tab w → ClassRow w A n c l → (A = none → n = 0 ∧ c = 0) →
  (∀ x ∈ l, x.upto 140737488351232) → (∀ x ∈ l, x.wf) → n ≤ 140737488351232 → a.length ≤ 140737488355328 → b.length ≤ 140737488355328 →
  Calls Tryz.prog 11 #[.slice A n c, .string (bs a), .string (bs b)] w fun e w' => e = .returned (.tuple #[.bool β, errV (kindsQ l q a b)]) ∧ Below w.heap.size w w'
theorem join_ex (l : List ClassD) (q : Nat) (a b : List UInt8) : ∃ k, (kindsQ l q a b = 0 → JoinT l a b k) ∧ (kindsQ l q a b ≠ 0 → k = []) := by
  by_cases h : kindsQ l q a b = 0
  · obtain ⟨_, ha, hb⟩ := kindsQ_zero.1 h
    obtain ⟨x, hx, rfl⟩ := kind_is (w := l) (l := a) (by omega)
    obtain ⟨y, hy, rfl⟩ := kind_is (w := l) (l := b) (by omega)
    exact ⟨_, fun _ => ⟨x, y, hx, hy, rfl, rfl, rfl⟩, fun h' => absurd h h'⟩
  · exact ⟨[], fun h' => absurd h' h, fun _ => rfl⟩
theorem joinT_len {l : List ClassD} {a b k : List UInt8} {q : Nat} (hq : WorldIs l q) (h : kindsQ l q a b = 0 → JoinT l a b k) (h0 : kindsQ l q a b ≠ 0 → k = []) : k.length ≤ 30 := by
  by_cases e : kindsQ l q a b = 0
  · obtain ⟨hq0, ha, hb⟩ := kindsQ_zero.1 e
    have hV : Valid l := worldIs_zero (by rw [hq0] at hq; exact hq)
    obtain ⟨x, hx, rfl⟩ := kind_is (w := l) (l := a) (by omega)
    obtain ⟨y, hy, rfl⟩ := kind_is (w := l) (l := b) (by omega)
    rw [(joinT_iff hx hy).1 (h e)]
    exact ktext_len (joinK_ok hV ((there_iff hx).1 ha) ((there_iff hy).1 hb) hx hy)
  · rw [h0 e]; decide
theorem lattice_facts {l : List ClassD} {q : Nat} (hq : WorldIs l q) {a b c aa ab ba bc x y : List UInt8}
    (haa : kindsQ l q a a = 0 → JoinT l a a aa) (hab : kindsQ l q a b = 0 → JoinT l a b ab) (hba : kindsQ l q b a = 0 → JoinT l b a ba) (hbc : kindsQ l q b c = 0 → JoinT l b c bc)
    (hx : kindsQ l q ab c = 0 → JoinT l ab c x) (hy : kindsQ l q a bc = 0 → JoinT l a bc y)
    (h1 : kindsQ l q a a = 0) (h2 : kindsQ l q a b = 0) (h3 : kindsQ l q b a = 0) (h4 : kindsQ l q b c = 0) :
    aa = a ∧ ab = ba ∧ kindsQ l q ab c = 0 ∧ kindsQ l q a bc = 0 ∧ x = y := by
  obtain ⟨hq0, ka, kb⟩ := kindsQ_zero.1 h2
  obtain ⟨-, -, kc⟩ := kindsQ_zero.1 h4
  have hV : Valid l := worldIs_zero (by rw [hq0] at hq; exact hq)
  obtain ⟨u, ou, rfl⟩ := kind_is (w := l) (l := a) (by omega)
  obtain ⟨v, ov, rfl⟩ := kind_is (w := l) (l := b) (by omega)
  obtain ⟨z, oz, rfl⟩ := kind_is (w := l) (l := c) (by omega)
  have tu := (there_iff ou).1 ka
  have tv := (there_iff ov).1 kb
  have tz := (there_iff oz).1 kc
  have e1 := (joinT_iff ou ou).1 (haa h1)
  have e2 := (joinT_iff ou ov).1 (hab h2)
  have e3 := (joinT_iff ov ou).1 (hba h3)
  have e4 := (joinT_iff ov oz).1 (hbc h4)
  subst e1 e2 e3 e4
  have o1 := joinK_ok hV tu tv ou ov
  have o2 := joinK_ok hV tv tz ov oz
  have t1 := (joinK_is hV tu tv).1
  have t2 := (joinK_is hV tv tz).1
  have q1 : kindsQ l q (joinK l u v).text z.text = 0 := kindsQ_zero.2 ⟨hq0, (there_iff o1).2 t1, kc⟩
  have q2 : kindsQ l q u.text (joinK l v z).text = 0 := kindsQ_zero.2 ⟨hq0, ka, (there_iff o2).2 t2⟩
  refine ⟨by rw [joinK_self], by rw [joinK_comm hV tu tv], q1, q2, ?_⟩
  rw [(joinT_iff o1 oz).1 (hx q1), (joinT_iff ou o2).1 (hy q2), joinK_assoc hV tu tv tz]
theorem above_facts {l : List ClassD} {q : Nat} (hq : WorldIs l q) {a b c k : List UInt8} {x y p r s : Bool} (hk : kindsQ l q a b = 0 → JoinT l a b k)
    (hx : x = true ↔ kindsQ l q a k = 0 ∧ FitsT l a k) (hy : y = true ↔ kindsQ l q b k = 0 ∧ FitsT l b k) (hp : p = true ↔ kindsQ l q a c = 0 ∧ JoinT l a c c) (hr : r = true ↔ kindsQ l q b c = 0 ∧ JoinT l b c c) (hs : s = true ↔ kindsQ l q k c = 0 ∧ JoinT l k c c)
    (h : kindsQ l q a b = 0) : kindsQ l q a k = 0 ∧ kindsQ l q b k = 0 ∧ x = true ∧ y = true ∧ (kindsQ l q k c = 0 → p = true → r = true → s = true) := by
  obtain ⟨hq0, ka, kb⟩ := kindsQ_zero.1 h
  have hV : Valid l := worldIs_zero (by rw [hq0] at hq; exact hq)
  obtain ⟨u, ou, rfl⟩ := kind_is (w := l) (l := a) (by omega)
  obtain ⟨v, ov, rfl⟩ := kind_is (w := l) (l := b) (by omega)
  have tu := (there_iff ou).1 ka
  have tv := (there_iff ov).1 kb
  have e2 := (joinT_iff ou ov).1 (hk h)
  subst e2
  have o1 := joinK_ok hV tu tv ou ov
  obtain ⟨t1, j1, j2, j3⟩ := joinK_is hV tu tv
  have kk := (there_iff o1).2 t1
  have q1 : kindsQ l q u.text (joinK l u v).text = 0 := kindsQ_zero.2 ⟨hq0, ka, kk⟩
  have q2 : kindsQ l q v.text (joinK l u v).text = 0 := kindsQ_zero.2 ⟨hq0, kb, kk⟩
  refine ⟨q1, q2, hx.2 ⟨q1, (fitsT_iff ou o1).2 (j1.fits hV tu)⟩, hy.2 ⟨q2, (fitsT_iff ov o1).2 (j2.fits hV tv)⟩, fun q3 h1 h2 => ?_⟩
  obtain ⟨-, -, kc⟩ := kindsQ_zero.1 q3
  obtain ⟨z, oz, rfl⟩ := kind_is (w := l) (l := c) (by omega)
  have tz := (there_iff oz).1 kc
  have n1 := (joinT_iff ou oz).1 (hp.1 h1).2
  have n2 := (joinT_iff ov oz).1 (hr.1 h2).2
  have m1 := (joinK_eq hV tu tz).2 (text_inj (joinK_ok hV tu tz ou oz) oz n1.symm)
  have m2 := (joinK_eq hV tv tz).2 (text_inj (joinK_ok hV tv tz ov oz) oz n2.symm)
  refine hs.2 ⟨q3, (joinT_iff o1 oz).2 ?_⟩
  rw [(joinK_eq hV t1 tz).1 (j3 z m1 m2)]
end Go.Proofs.YtnmfcckahglbbaaGreatDoor
