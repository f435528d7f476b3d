/- Which kinds fit which: on data. No program. -/
import Derived.Test.YtkolpbjpgobkcaaDoorKiM
import Derived.Test.YtkolpbjpgobkcaaDoorWoN
namespace Go.Proofs.YtkolpbjpgobkcaaDoor
open Go.RowKit
set_option linter.unusedVariables false

/-- A value of the first kind can be used as the second. -/
def FitsD (w : List ClassD) : KindD → KindD → Prop
  | _, .top => True
  | .top, _ => False
  | .nul, .nul => True
  | .nul, k => k.isRef = true
  | _, .nul => False
  | .word d c, .word e b => d = e ∧ c = b
  | .word d c, .cls e n => n = objB ∧ e < d
  | .cls _ _, .word _ _ => False
  | .cls d m, .cls e n => (d = e ∧ (m = n ∨ n = objB ∨ Up w m n)) ∨ (e < d ∧ n = objB)
theorem FitsD.refl (w : List ClassD) (k : KindD) : FitsD w k k := by
  cases k with
  | nul => exact trivial
  | top => exact trivial
  | word d c => exact ⟨rfl, rfl⟩
  | cls d n => exact .inl ⟨rfl, .inl rfl⟩
theorem obj_up {w : List ClassD} {x : List UInt8} : ¬ Up w objB x := fun h => h.within (s := fun _ => False) (fun z hz => by rw [upsOf_some classOf_obj] at hz; cases hz) (fun _ h => h.elim)
theorem FitsD.trans {w : List ClassD} {a b c : KindD} (h : FitsD w a b) (k : FitsD w b c) : FitsD w a c := by
  cases c with
  | top => cases a <;> exact trivial
  | nul =>
    cases b with
    | top => exact k.elim
    | nul => exact h
    | word d c => exact k.elim
    | cls d n => exact k.elim
  | word e z =>
    cases b with
    | top => exact k.elim
    | nul =>
      cases a with
      | nul => exact k
      | top => exact h.elim
      | word d c => exact h.elim
      | cls d n => exact h.elim
    | word f y => obtain ⟨rfl, rfl⟩ := k; exact h
    | cls d n => exact k.elim
  | cls e z =>
    cases b with
    | top => exact k.elim
    | nul =>
      cases a with
      | nul => exact k
      | top => exact h.elim
      | word d c => exact h.elim
      | cls d n => exact h.elim
    | word f y =>
      cases a with
      | nul => exact rfl
      | top => exact h.elim
      | word d c => obtain ⟨rfl, rfl⟩ := h; exact k
      | cls d n => exact h.elim
    | cls f y =>
      cases a with
      | nul => exact rfl
      | top => exact h.elim
      | word d c =>
        obtain ⟨rfl, hf⟩ := h
        rcases k with ⟨rfl, rfl | rfl | hu⟩ | ⟨he, rfl⟩
        · exact ⟨rfl, hf⟩
        · exact ⟨rfl, hf⟩
        · exact absurd hu obj_up
        · exact ⟨rfl, by omega⟩
      | cls d m =>
        rcases h with ⟨rfl, hm⟩ | ⟨hf, rfl⟩
        · rcases k with ⟨rfl, hk⟩ | ⟨he, rfl⟩
          · refine .inl ⟨rfl, ?_⟩
            rcases hm with rfl | rfl | hm
            · exact hk
            · rcases hk with rfl | rfl | hu
              · exact .inr (.inl rfl)
              · exact .inr (.inl rfl)
              · exact absurd hu obj_up
            · rcases hk with rfl | rfl | hu
              · exact .inr (.inr hm)
              · exact .inr (.inl rfl)
              · exact .inr (.inr (hm.trans hu))
          · exact .inr ⟨he, rfl⟩
        · rcases k with ⟨rfl, rfl | rfl | hu⟩ | ⟨he, rfl⟩
          · exact .inr ⟨hf, rfl⟩
          · exact .inr ⟨hf, rfl⟩
          · exact absurd hu obj_up
          · exact .inr ⟨by omega, rfl⟩
theorem FitsD.anti {w : List ClassD} (hV : Valid w) {a b : KindD} (h : FitsD w a b) (k : FitsD w b a) : a = b := by
  cases a with
  | nul =>
    cases b with
    | nul => rfl
    | top => exact k.elim
    | word d c => exact k.elim
    | cls d n => exact k.elim
  | top =>
    cases b with
    | nul => exact h.elim
    | top => rfl
    | word d c => exact h.elim
    | cls d n => exact h.elim
  | word d c =>
    cases b with
    | nul => exact h.elim
    | top => exact k.elim
    | word e z => obtain ⟨rfl, rfl⟩ := h; rfl
    | cls e n => exact k.elim
  | cls d m =>
    cases b with
    | nul => exact h.elim
    | top => exact k.elim
    | word e z => exact h.elim
    | cls e n =>
      rcases h with ⟨rfl, h⟩ | ⟨he, rfl⟩
      · rcases k with ⟨_, k⟩ | ⟨he, _⟩
        · rcases h with rfl | rfl | h
          · rfl
          · rcases k with rfl | rfl | k
            · rfl
            · rfl
            · exact absurd k obj_up
          · rcases k with rfl | rfl | k
            · rfl
            · exact absurd h obj_up
            · exact absurd (h.trans k) (hV.no_loop _)
        · omega
      · rcases k with ⟨rfl, _⟩ | ⟨he', _⟩ <;> omega
end Go.Proofs.YtkolpbjpgobkcaaDoor
