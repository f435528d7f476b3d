/- The reference's Join. -/
import Derived.Test.YtnmfcckahglbbaaGreatDoorJoK
import Derived.Test.YtnmfcckahglbbaaGreatDoorWoS
import Derived.Test.YtnmfcckahglbbaaGreatDoorJoW
namespace Go.Proofs.YtnmfcckahglbbaaGreatDoor
open Go.ChangeShapes Go.WideShapes Go.ChangeAt Go.RowKit
set_option linter.unusedVariables false

section
variable {l : List ClassD} {a b : KindD}
theorem faceB_obj : faceB l objB = false := by unfold faceB; rw [classOf_obj]; rfl
theorem Chain.lone {t : List (List UInt8)} (h : Chain l objB t) : t = [objB] := by
  cases h with
  | top _ _ => rfl
  | up h hs _ =>
    rw [classOf_obj] at h
    rw [← Option.some.inj h] at hs
    exact absurd rfl hs
/-- A superclass is no interface; that of an interface is Object. -/
theorem Chain.faces_ (hJ : Joined l) {n : List UInt8} {s : List (List UInt8)} (h : Chain l n s) : ∀ x ∈ s, x ≠ n → faceB l x = false ∧ (faceB l n = true → x = objB) := by
  induction h with
  | top h hs =>
    intro x hx hne
    exact absurd (List.mem_singleton.1 hx) hne
  | @up n c t h hs k ih =>
    intro x hx hne
    rcases List.mem_cons.1 hx with rfl | hx
    · exact absurd rfl hne
    have hsu : faceB l c.su = false ∧ (faceB l n = true → c.su = objB) := by
      rcases classOf_in h with ⟨_, rfl⟩ | ⟨e, rfl⟩ | ⟨hm, _⟩
      · exact absurd rfl hs
      · exact ⟨faceB_obj, fun _ => rfl⟩
      · obtain ⟨_, _, h3, _, h5⟩ := link_zero (hJ.link hm)
        refine ⟨h3, fun hf => h5 ?_⟩
        unfold faceB at hf
        rw [h] at hf
        exact hf
    refine ⟨?_, fun hf => ?_⟩
    · by_cases e : x = c.su
      · rw [e]; exact hsu.1
      · exact (ih x hx e).1
    · have e := hsu.2 hf
      rw [e] at k
      rw [k.lone] at hx
      exact List.mem_singleton.1 hx
theorem joinC_face (hV : Valid l) {m n : List UInt8} (hm : knownB l m = true) (hn : knownB l n = true) (hne : m ≠ n) (hf : faceB l m = true ∨ faceB l n = true) : joinC l m n = objB := by
  obtain ⟨h1, h2, _⟩ := joinC_is hV hm hn
  have c1 := (sup_chain hV hm).faces_ hV.1
  have c2 := (sup_chain hV hn).faces_ hV.1
  rcases hf with hf | hf
  · by_cases e : joinC l m n = m
    · rw [e] at h2
      have := (c2 m h2 hne).1
      rw [hf] at this; cases this
    · exact (c1 _ h1 e).2 hf
  · by_cases e : joinC l m n = n
    · rw [e] at h1
      have := (c1 n h1 (Ne.symm hne)).1
      rw [hf] at this; cases this
    · exact (c2 _ h2 e).2 hf
/-- The join of two different arrays. -/
theorem joinK_elem (ha : 0 < a.depth) (hb : 0 < b.depth) (hn : a ≠ b) :
    (a.elem.isRef = true → b.elem.isRef = true → ∃ e n, joinK l a.elem b.elem = .cls e n ∧ joinK l a b = .cls (e + 1) n) ∧ ((a.elem.isRef && b.elem.isRef) = false → joinK l a b = .cls 0 objB) := by
  have hun : joinK l a b = (match a, b with
    | .nul, k => if k.isRef = true then k else .top
    | k, .nul => if k.isRef = true then k else .top
    | .word d c, .word e b => if 0 < d ∧ 0 < e then .cls (min d e - 1) objB else .top
    | .word d c, .cls e n => if 0 < d then .cls (min (d - 1) e) objB else .top
    | .cls e n, .word d c => if 0 < d then .cls (min (d - 1) e) objB else .top
    | .cls d m, .cls e n => if d = e then .cls d (joinC l m n) else .cls (min d e) objB
    | .top, _ => .top
    | _, .top => .top) := by unfold joinK; rw [if_neg hn]; cases a <;> cases b <;> rfl
  cases a with
  | nul => cases ha
  | top => cases ha
  | word d c =>
    obtain ⟨d, rfl⟩ : ∃ e, d = e + 1 := ⟨d - 1, by have : 0 < d := ha; omega⟩
    cases b with
    | nul => cases hb
    | top => cases hb
    | word f y =>
      obtain ⟨f, rfl⟩ : ∃ e, f = e + 1 := ⟨f - 1, by have : 0 < f := hb; omega⟩
      have h1 : joinK l (.word (d + 1) c) (.word (f + 1) y) = .cls (min (d + 1) (f + 1) - 1) objB := by
        rw [hun]; exact if_pos ⟨by omega, by omega⟩
      have hne : KindD.word d c ≠ .word f y := fun e => hn (by cases e; rfl)
      refine ⟨fun h2 h3 => ?_, fun h2 => ?_⟩
      · have h2 : 0 < d := of_decide_eq_true h2
        have h3 : 0 < f := of_decide_eq_true h3
        refine ⟨min d f - 1, objB, ?_, by rw [h1]; congr 1; omega⟩
        show joinK l (.word d c) (.word f y) = _
        unfold joinK
        rw [if_neg hne]
        exact if_pos ⟨h2, h3⟩
      · have h2 : (decide (0 < d) && decide (0 < f)) = false := h2
        rw [h1]
        congr 1
        simp at h2
        by_cases hd : 0 < d
        · have := h2 hd; omega
        · omega
    | cls f n =>
      obtain ⟨f, rfl⟩ : ∃ e, f = e + 1 := ⟨f - 1, by have : 0 < f := hb; omega⟩
      have h1 : joinK l (.word (d + 1) c) (.cls (f + 1) n) = .cls (min (d + 1 - 1) (f + 1)) objB := by
        rw [hun]; exact if_pos (by omega)
      refine ⟨fun h2 _ => ?_, fun h2 => ?_⟩
      · have h2 : 0 < d := of_decide_eq_true h2
        refine ⟨min (d - 1) f, objB, ?_, by rw [h1]; congr 1; omega⟩
        show joinK l (.word d c) (.cls f n) = _
        unfold joinK
        rw [if_neg (fun e => by cases e)]
        exact if_pos h2
      · have h2 : (decide (0 < d) && true) = false := h2
        rw [h1]
        congr 1
        simp at h2
        omega
  | cls d m =>
    obtain ⟨d, rfl⟩ : ∃ e, d = e + 1 := ⟨d - 1, by have : 0 < d := ha; omega⟩
    cases b with
    | nul => cases hb
    | top => cases hb
    | word f y =>
      obtain ⟨f, rfl⟩ : ∃ e, f = e + 1 := ⟨f - 1, by have : 0 < f := hb; omega⟩
      have h1 : joinK l (.cls (d + 1) m) (.word (f + 1) y) = .cls (min (f + 1 - 1) (d + 1)) objB := by
        rw [hun]; exact if_pos (by omega)
      refine ⟨fun _ h2 => ?_, fun h2 => ?_⟩
      · have h2 : 0 < f := of_decide_eq_true h2
        refine ⟨min (f - 1) d, objB, ?_, by rw [h1]; congr 1; omega⟩
        show joinK l (.cls d m) (.word f y) = _
        unfold joinK
        rw [if_neg (fun e => by cases e)]
        exact if_pos h2
      · have h2 : (true && decide (0 < f)) = false := h2
        rw [h1]
        congr 1
        simp at h2
        omega
    | cls f n =>
      obtain ⟨f, rfl⟩ : ∃ e, f = e + 1 := ⟨f - 1, by have : 0 < f := hb; omega⟩
      have hne : KindD.cls d m ≠ .cls f n := fun e => hn (by cases e; rfl)
      refine ⟨fun _ _ => ?_, fun h2 => (by cases h2)⟩
      by_cases e : d = f
      · subst e
        refine ⟨d, joinC l m n, ?_, by rw [hun]; exact if_pos rfl⟩
        show joinK l (.cls d m) (.cls d n) = _
        unfold joinK
        rw [if_neg hne]
        exact if_pos rfl
      · refine ⟨min d f, objB, ?_, by
          rw [hun]
          refine (if_neg (by omega)).trans ?_
          congr 1; omega⟩
        show joinK l (.cls d m) (.cls f n) = _
        unfold joinK
        rw [if_neg hne]
        exact if_neg e
/-- An array and another reference: Object. -/
theorem joinK_mixed (hra : a.isRef = true) (hrb : b.isRef = true) (h : (0 < a.depth ∧ b.depth = 0) ∨ (a.depth = 0 ∧ 0 < b.depth)) : joinK l a b = .cls 0 objB := by
  have hn : a ≠ b := fun e => by rw [e] at h; omega
  unfold joinK
  rw [if_neg hn]
  cases a with
  | nul => cases hra
  | top => cases hra
  | word d c =>
    have hd : 0 < d := of_decide_eq_true hra
    cases b with
    | nul => cases hrb
    | top => cases hrb
    | word f y =>
      have hf : 0 < f := of_decide_eq_true hrb
      rcases h with ⟨_, h⟩ | ⟨h, _⟩
      · have : f = 0 := h; omega
      · have : d = 0 := h; omega
    | cls f n =>
      have : f = 0 := by
        rcases h with ⟨_, h⟩ | ⟨h, _⟩
        · exact h
        · have : d = 0 := h; omega
      refine (if_pos hd).trans ?_
      congr 1; omega
  | cls d m =>
    cases b with
    | nul => cases hrb
    | top => cases hrb
    | word f y =>
      have hf : 0 < f := of_decide_eq_true hrb
      have : d = 0 := by
        rcases h with ⟨_, h⟩ | ⟨h, _⟩
        · have : f = 0 := h; omega
        · exact h
      refine (if_pos hf).trans ?_
      congr 1; omega
    | cls f n =>
      have : (0 < d ∧ f = 0) ∨ (d = 0 ∧ 0 < f) := h
      refine (if_neg (by omega)).trans ?_
      congr 1; omega
theorem joinK_noref (hn : a ≠ b) (ha : a = .nul → b.isRef = false) (hb : b = .nul → a.isRef = false) (h : a.isRef = false ∨ b.isRef = false) : joinK l a b = .top := by
  unfold joinK
  rw [if_neg hn]
  cases a with
  | nul => exact if_neg (by rw [ha rfl]; simp)
  | top => cases b <;> rfl
  | word d c =>
    cases b with
    | nul => exact if_neg (by rw [hb rfl]; simp)
    | top => rfl
    | word f y =>
      refine if_neg ?_
      rcases h with h | h
      · have : ¬ 0 < d := of_decide_eq_false h; omega
      · have : ¬ 0 < f := of_decide_eq_false h; omega
    | cls f n =>
      refine if_neg ?_
      rcases h with h | h
      · exact of_decide_eq_false h
      · cases h
  | cls d m =>
    cases b with
    | nul => exact if_neg (by rw [hb rfl]; simp)
    | top => rfl
    | word f y =>
      refine if_neg ?_
      rcases h with h | h
      · cases h
      · exact of_decide_eq_false h
    | cls f n => rcases h with h | h <;> cases h
end
theorem joinK_nul {l : List ClassD} {b : KindD} (h : b.isRef = true) : joinK l .nul b = b ∧ joinK l b .nul = b := by
  cases b with
  | nul => cases h
  | top => cases h
  | word d c => exact ⟨if_pos h, if_pos h⟩
  | cls d n => exact ⟨rfl, rfl⟩
theorem cls_text0 (n : List UInt8) : (KindD.cls 0 n).text = 76 :: (n ++ [59]) := rfl
theorem bs_snoc2 (n : List UInt8) : (⟨#[76]⟩ : ByteArray) ++ bs n ++ (⟨#[59]⟩ : ByteArray) = bs (76 :: (n ++ [59])) := by
  rw [bs_cons, bs_snoc]
  rfl
theorem joinC_at {l : List ClassD} {m z : List UInt8} {i : Nat} (hi : i < (supF l m).length) (h : ∀ (t : Nat) (ht : t < (supF l m).length), t < i → (supF l z).any (· == (supF l m)[t]) = false) (h1 : (supF l z).any (· == (supF l m)[i]) = true) : joinC l m z = (supF l m)[i] := by
  unfold joinC
  have e : supF l m = (supF l m).take i ++ (supF l m)[i] :: (supF l m).drop (i + 1) := by rw [← List.drop_eq_getElem_cons hi, List.take_append_drop]
  have h2 : ((supF l m).take i).find? (fun x => (supF l z).any (· == x)) = none := by
    rw [List.find?_eq_none]
    intro x hx
    obtain ⟨t, ht, rfl⟩ := List.getElem_of_mem hx
    rw [List.getElem_take]
    rw [List.length_take] at ht
    rw [h t (by omega) (by omega)]
    simp
  have h3 : ((supF l m).take i ++ (supF l m)[i] :: (supF l m).drop (i + 1)).find? (fun x => (supF l z).any (· == x)) = some (supF l m)[i] := by
    rw [List.find?_append, h2, Option.none_or, List.find?_cons]
    simp only [h1]
  rw [← e] at h3
  rw [h3]
  rfl
end Go.Proofs.YtnmfcckahglbbaaGreatDoor
