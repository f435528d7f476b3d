/- What class.Check must say; law1.classy. -/
import Derived.Test.YtkabkpkfglngnaaDoorClR
import Derived.Test.YtkabkpkfglngnaaDoorIn2
namespace Go.Proofs.YtkabkpkfglngnaaDoor
open Go.ChangeShapes Go.WideShapes Go.ChangeAt Go.RowKit
set_option linter.unusedVariables false
attribute [local go_sem] eqGuard_errV_nil eqGuard_errV_iface eql_errV_nil neq_errV_nil eql_errV_form

/-- class.Check returns the first fault of every class. -/
def ClassChecks : Prop := ∀ (x : ClassD) (A : Option Addr) (i j : Nat) (B : Option Addr) (k l : Nat) (C : Option Addr) (m n : Nat) (w : World), Tab w → StrRow w A i j x.faces → FieldRow w B k l x.fields → MethRow w C m n x.meths →
  (A = none → i = 0 ∧ j = 0) → (B = none → k = 0 ∧ l = 0) → (C = none → m = 0 ∧ n = 0) → x.upto 140737488351232 → x.wf →
  Calls Tryd.prog 8 #[classV x A i j B k l C m n] w fun e w' => e = .returned (errV (classF x)) ∧ Below w.heap.size w w'
theorem InsD.upto.more {x : InsD} {N M : Nat} (h : x.upto N) (hN : N ≤ M) : x.upto M := ⟨Nat.le_trans h.1 hN, Nat.le_trans h.2.1 hN, Nat.le_trans h.2.2 hN⟩
theorem HandD.upto.more {x : HandD} {N M : Nat} (h : x.upto N) (hN : N ≤ M) : x.upto M := Nat.le_trans h hN
theorem FieldD.upto.more {x : FieldD} {N M : Nat} (h : x.upto N) (hN : N ≤ M) : x.upto M := ⟨Nat.le_trans h.1 hN, Nat.le_trans h.2 hN⟩
theorem MethD.upto.more {x : MethD} {N M : Nat} (h : x.upto N) (hN : N ≤ M) : x.upto M :=
  ⟨Nat.le_trans h.1 hN, Nat.le_trans h.2.1 hN, ⟨fun y hy => (h.2.2.1.1 y hy).more hN, Nat.le_trans h.2.2.1.2 hN⟩, fun y hy => (h.2.2.2.1 y hy).more hN, Nat.le_trans h.2.2.2.2 hN⟩
theorem ClassD.upto.more {x : ClassD} {N M : Nat} (h : x.upto N) (hN : N ≤ M) : x.upto M :=
  ⟨Nat.le_trans h.1 hN, Nat.le_trans h.2.1 hN, ⟨fun y hy => Nat.le_trans (h.2.2.1.1 y hy) hN, Nat.le_trans h.2.2.1.2 hN⟩, ⟨fun y hy => (h.2.2.2.1.1 y hy).more hN, Nat.le_trans h.2.2.2.1.2 hN⟩, fun y hy => (h.2.2.2.2.1 y hy).more hN, Nat.le_trans h.2.2.2.2.2 hN⟩
theorem drew_behind {w a : World} {B : Nat} (h : Below B w a) : Below B w a.drew := h.drew

def classA : ClassD := ⟨[65], [79, 98, 106, 101, 99, 116], [], false, [], []⟩
def classZ : ClassD := ⟨[], [], [], false, [], []⟩
theorem class_bare {x : ClassD} (K : ClassChecks) (hf : x.faces = []) (hd : x.fields = []) (hm : x.meths = []) (hs : x.nm.length ≤ 20 ∧ x.su.length ≤ 20) (w : World) (T : Tab w) :
    Calls Tryd.prog 8 #[classV x none 0 0 none 0 0 none 0 0] w fun e w' => e = .returned (errV (classF x)) ∧ Below w.heap.size w w' := by
  refine K x none 0 0 none 0 0 none 0 0 w T (by rw [hf]; exact SRow.nil_ _ _ _) (by rw [hd]; exact SRow.nil_ _ _ _) (by rw [hm]; exact SRow.nil_ _ _ _) (fun _ => ⟨rfl, rfl⟩) (fun _ => ⟨rfl, rfl⟩) (fun _ => ⟨rfl, rfl⟩) ?_ (by intro y hy; rw [hm] at hy; cases hy)
  refine ⟨by omega, by omega, ⟨fun y hy => (by rw [hf] at hy; cases hy), by rw [hf]; simp⟩, ⟨fun y hy => (by rw [hd] at hy; cases hy), by rw [hd]; simp⟩, fun y hy => (by rw [hm] at hy; cases hy), by rw [hm]; simp⟩
theorem class_A (K : ClassChecks) (w : World) (T : Tab w) : Calls Tryd.prog 8 #[.agg #[.string ⟨#[65]⟩, .string ⟨#[79, 98, 106, 101, 99, 116]⟩, .slice none 0 0, .bool false, .slice none 0 0, .slice none 0 0]] w fun e w' => e = .returned .nilIface ∧ Below w.heap.size w w' :=
  (class_bare (x := classA) K rfl rfl rfl (by decide) w T).mono fun _ _ ⟨h1, h2⟩ => ⟨by rw [h1, show classF classA = 0 by decide]; rfl, h2⟩
theorem class_Z (K : ClassChecks) (w : World) (T : Tab w) : Calls Tryd.prog 8 #[.agg #[.string ⟨#[]⟩, .string ⟨#[]⟩, .slice none 0 0, .bool false, .slice none 0 0, .slice none 0 0]] w fun e w' => e = .returned (errV 1) ∧ Below w.heap.size w w' :=
  (class_bare (x := classZ) K rfl rfl rfl (by decide) w T).mono fun _ _ ⟨h1, h2⟩ => ⟨by rw [h1, show classF classZ = 1 by decide], h2⟩
set_option maxRecDepth 20000 in
set_option maxHeartbeats 2000000 in
theorem classy_any (K : ClassChecks) (w : World) (T : Tab w) : Calls Tryd.prog 6 #[] w fun e w' => e = .returned (.bool true) ∧ Below w.heap.size w w' := by
  have H1 := Lib.hid (fun W T => class_A K W T)
  have H2 := Lib.hid (fun W T => class_Z K W T)
  have HT := Lib.hid T
  clear K T
  go_enter Tryd.func6, Tryd.ntmps6
  go_wp2_with (first
    | (go_at_call 8; (with_reducible refine (H1.out _ HT.out).mono ?_); rintro e w1 ⟨rfl, hb⟩
       have HB1 := Lib.hid hb
       clear hb)
    | (go_at_call 8; (with_reducible refine (H2.out _ (HT.out.below HB1.out)).mono ?_); rintro e w2 ⟨rfl, hb⟩
       have HB2 := Lib.hid (bnext HB1.out hb)
       clear hb))
  go_ret
  exact ⟨rfl, HB2.out⟩
end Go.Proofs.YtkabkpkfglngnaaDoor
