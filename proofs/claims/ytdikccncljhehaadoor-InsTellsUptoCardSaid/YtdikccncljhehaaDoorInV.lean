/- The reference's text of a right instruction. -/
import Derived.Test.YtdikccncljhehaaDoorInW
namespace Go.Proofs.YtdikccncljhehaaDoor
open Go.ChangeShapes Go.WideShapes Go.ChangeAt Go.RowKit
set_option linter.unusedVariables false

theorem insText_any (x : InsD) (h : insF x = 0) (hw : x.wf) (w : World) (ht : x.ty.length ≤ 1048576) (hc : x.cl.length ≤ 1048576) (hn : x.nm.length ≤ 1048576) :
    Calls Tryd.prog 11 #[insV x] w fun e w' => e = .returned (.string (bs (textM x))) ∧ Below w.heap.size w w' := by
  obtain ⟨op, a, b, ty, cl, nm⟩ := x
  obtain ⟨k, hx, h0, hk, _⟩ := insF_zero h
  have hc' : op = 1 ∨ op = 2 ∨ op = 3 ∨ op = 4 ∨ op = 5 ∨ op = 6 ∨ op = 7 ∨ op = 8 ∨ op = 9 ∨ op = 10 ∨ op = 11 ∨ op = 12 ∨ op = 13 ∨ op = 14 ∨ op = 15 ∨ op = 16 ∨ op = 17 ∨ op = 18 ∨ op = 19 ∨ op = 20 ∨ op = 21 ∨ op = 22 ∨ op = 23 ∨ op = 24 ∨ op = 25 ∨ op = 26 ∨ op = 27 ∨ op = 28 := by simp only at hx; omega
  clear h hx h0 hk
  obtain ⟨_, ha, hb⟩ := hw
  rcases hc' with rfl | rfl | rfl | rfl | rfl | rfl | rfl | rfl | rfl | rfl | rfl | rfl | rfl | rfl | rfl | rfl | rfl | rfl | rfl | rfl | rfl | rfl | rfl | rfl | rfl | rfl | rfl | rfl
  · exact word_1 a b ty cl nm ha hb w ht hc hn
  · exact word_2 a b ty cl nm ha hb w ht hc hn
  · exact word_3 a b ty cl nm ha hb w ht hc hn
  · exact word_4 a b ty cl nm ha hb w ht hc hn
  · exact word_5 a b ty cl nm ha hb w ht hc hn
  · exact word_6 a b ty cl nm ha hb w ht hc hn
  · exact word_7 a b ty cl nm ha hb w ht hc hn
  · exact word_8 a b ty cl nm ha hb w ht hc hn
  · exact word_9 a b ty cl nm ha hb w ht hc hn
  · exact word_10 a b ty cl nm ha hb w ht hc hn
  · exact word_11 a b ty cl nm ha hb w ht hc hn
  · exact word_12 a b ty cl nm ha hb w ht hc hn
  · exact word_13 a b ty cl nm ha hb w ht hc hn
  · exact word_14 a b ty cl nm ha hb w ht hc hn
  · exact word_15 a b ty cl nm ha hb w ht hc hn
  · exact word_16 a b ty cl nm ha hb w ht hc hn
  · exact word_17 a b ty cl nm ha hb w ht hc hn
  · exact word_18 a b ty cl nm ha hb w ht hc hn
  · exact word_19 a b ty cl nm ha hb w ht hc hn
  · exact word_20 a b ty cl nm ha hb w ht hc hn
  · exact word_21 a b ty cl nm ha hb w ht hc hn
  · exact word_22 a b ty cl nm ha hb w ht hc hn
  · exact word_23 a b ty cl nm ha hb w ht hc hn
  · exact word_24 a b ty cl nm ha hb w ht hc hn
  · exact word_25 a b ty cl nm ha hb w ht hc hn
  · exact word_26 a b ty cl nm ha hb w ht hc hn
  · exact word_27 a b ty cl nm ha hb w ht hc hn
  · exact word_28 a b ty cl nm ha hb w ht hc hn
end Go.Proofs.YtdikccncljhehaaDoor
