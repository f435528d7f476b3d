/- The contract of coffeehouselaw1.pushed. -/
import Derived.Test.YtdikccncljhehaaDoorIn6
import Derived.Test.YtdikccncljhehaaDoorInE
namespace Go.Proofs.YtdikccncljhehaaDoor
open Go.ChangeShapes Go.WideShapes Go.ChangeAt Go.RowKit
set_option linter.unusedVariables false
attribute [local go_sem] eqGuard_errV_nil eqGuard_errV_iface eql_errV_nil neq_errV_nil eql_errV_form

theorem parse_text {x : InsD} (hw : x.wf) (h : insF x = 0) : parseM (textM x) = x ∧ parseF (textM x) = 0 := by
  have hr := read_text hw h
  have hb : parseB (textM x) = true := by unfold parseB; rw [hr]; simp [h]
  exact ⟨by unfold parseM; rw [hb, if_pos rfl, hr], by unfold parseF; rw [hb, if_pos rfl]⟩
def pushI : InsD := ⟨2, -7, 0, [73], [], []⟩
theorem push_wf : pushI.wf := by refine ⟨?_, ?_, ?_⟩ <;> (unfold i64B pushI; decide)
theorem push_right : insF pushI = 0 := by decide
theorem push_text : textM pushI = [112, 117, 115, 104, 32, 45, 55, 32, 73] := by
  have e : Lib.itoa (-7) = [45, 55] := by
    unfold Lib.itoa
    rw [if_pos (by decide), Lib.decDigits]
    decide
  have e2 : partsM pushI = [Lib.itoa (-7), [73]] := rfl
  unfold textM
  rw [e2, e]
  rfl
theorem pushed_any (w : World) (T : Tab w) (E : Errs w) (P : Pow w) : Calls Tryd.prog 6 #[] w fun e w' => e = .returned (.bool true) ∧ Below w.heap.size w w' := by
  have HP := fun w T E P => parse_any [112, 117, 115, 104, 32, 45, 55, 32, 73] w T E P (by decide)
  obtain ⟨h1, h2⟩ := parse_text push_wf push_right
  rw [push_text] at h1 h2
  rw [h1, h2] at HP
  replace HP := Lib.hid HP
  have HT := Lib.hid T
  have HE := Lib.hid E
  have HQ := Lib.hid P
  have s1 : (bs [73]).toList = [73] := by rw [ByteArray.toList_eq]; rfl
  have s2 : (bs []).toList = [] := by rw [ByteArray.toList_eq]; rfl
  unfold insV pushI at HP
  clear h1 h2 T E P
  go_enter Tryd.func6, Tryd.ntmps6
  go_wp2_with (first
    | (go_at_call 12; refine (HP.out _ HT.out HE.out HQ.out).mono ?_; rintro e w1 ⟨rfl, b1⟩))
  go_ret
  exact ⟨rfl, b1.alloc b1.size _⟩
end Go.Proofs.YtdikccncljhehaaDoor
