/- The join of kinds: on data. No program. Lookup of members, layouts of fields: on data. No program. -/
import Derived.Test.YtkolpbjpgobkcaaGreatDoorGY
namespace Go.Proofs.YtkolpbjpgobkcaaGreatDoor
open Go.RowKit
set_option linter.unusedVariables false

/-! The superclasses of a class. -/
def chainF (l : List ClassD) : Nat → List UInt8 → List (List UInt8)
  | 0, _ => []
  | k + 1, n => n :: (match classOf l n with
    | some c => if c.su = [] then [] else chainF l k c.su
    | none => [])
theorem chainF_is {l : List ClassD} {n : List UInt8} {s : List (List UInt8)} (h : Chain l n s) : ∀ k, s.length ≤ k → chainF l k n = s := by
  induction h with
  | top h hs =>
    intro k hk
    cases k with
    | zero => simp at hk
    | succ k => unfold chainF; rw [h]; simp [hs]
  | up h hs _ ih =>
    intro k hk
    cases k with
    | zero => simp at hk
    | succ k => unfold chainF; rw [h]; simp only [hs, if_false]; rw [ih k (by simpa using hk)]
def supF (l : List ClassD) (n : List UInt8) : List (List UInt8) := chainF l 12 n
section
variable {l : List ClassD} {n x y : List UInt8}
theorem sup_chain (hV : Valid l) (hk : knownB l n = true) : Chain l n (supF l n) := by
  obtain ⟨s, h, hs⟩ := chain_is hV hk
  unfold supF
  rw [chainF_is h 12 hs]
  exact h
theorem Chain.tail_ {s : List (List UInt8)} (h : Chain l n s) : ∀ x ∈ s, ∃ pre t, s = pre ++ t ∧ Chain l x t := by
  induction h with
  | top h hs =>
    intro x hx
    obtain rfl := List.mem_singleton.1 hx
    exact ⟨[], _, rfl, .top h hs⟩
  | up h hs k ih =>
    intro x hx
    rcases List.mem_cons.1 hx with rfl | hx
    · exact ⟨[], _, rfl, .up h hs k⟩
    · obtain ⟨pre, t, e, ht⟩ := ih x hx
      exact ⟨_ :: pre, t, by rw [e]; rfl, ht⟩
theorem Chain.split_ {s : List (List UInt8)} (h : Chain l n s) : ∀ {pre post : List (List UInt8)}, s = pre ++ x :: post → Chain l x (x :: post) := by
  induction h with
  | top h hs =>
    intro pre post e
    cases pre with
    | nil =>
      obtain ⟨rfl, rfl⟩ := List.cons.inj e
      exact .top h hs
    | cons p r => have := congrArg List.length e; simp at this
  | up h hs k ih =>
    intro pre post e
    cases pre with
    | nil =>
      obtain ⟨rfl, rfl⟩ := List.cons.inj e
      exact .up h hs k
    | cons p r => exact ih (List.cons.inj e).2
theorem Chain.ends (hJ : Joined l) {s : List (List UInt8)} (h : Chain l n s) : objB ∈ s := by
  induction h with
  | top h hs =>
    rcases classOf_in h with ⟨e, _⟩ | ⟨_, rfl⟩ | ⟨hm, _⟩
    · simp [e]
    · cases hs
    · exact absurd hs (link_zero (hJ.link hm)).1
  | up h hs _ ih => exact List.mem_cons_of_mem _ ih
theorem Chain.known_ (hJ : Joined l) {s : List (List UInt8)} (h : Chain l n s) : ∀ x ∈ s, knownB l x = true := fun x hx => by
  obtain ⟨_, t, _, ht⟩ := h.tail_ x hx
  cases ht with
  | top h _ => unfold knownB; rw [h]; rfl
  | up h _ _ => unfold knownB; rw [h]; rfl
theorem sup_self (hV : Valid l) (hk : knownB l n = true) : n ∈ supF l n := by
  obtain ⟨t, e⟩ := (sup_chain hV hk).pos
  rw [e]; simp
theorem sup_known (hV : Valid l) (hk : knownB l n = true) (hx : x ∈ supF l n) : knownB l x = true := (sup_chain hV hk).known_ hV.1 x hx
theorem sup_tail (hV : Valid l) (hk : knownB l n = true) (hx : x ∈ supF l n) : ∃ pre, supF l n = pre ++ supF l x := by
  obtain ⟨pre, t, e, ht⟩ := (sup_chain hV hk).tail_ x hx
  have := (sup_chain hV (sup_known hV hk hx)).one ht
  exact ⟨pre, by rw [this]; exact e⟩
theorem sup_trans (hV : Valid l) (hk : knownB l n = true) (hx : x ∈ supF l n) (hy : y ∈ supF l x) : y ∈ supF l n := by
  obtain ⟨pre, e⟩ := sup_tail hV hk hx
  rw [e]
  exact List.mem_append_right _ hy
theorem sup_obj (hV : Valid l) (hk : knownB l n = true) : objB ∈ supF l n := (sup_chain hV hk).ends hV.1
theorem sup_up (hV : Valid l) (hk : knownB l n = true) (hx : x ∈ supF l n) : n = x ∨ Up l n x := by
  rcases (sup_chain hV hk).mem x hx with h | h
  · exact .inl h.symm
  · exact .inr h
theorem sup_anti (hV : Valid l) (hk : knownB l n = true) (hx : x ∈ supF l n) (hn : n ∈ supF l x) : n = x := by
  rcases sup_up hV hk hx with h | h
  · exact h
  · rcases sup_up hV (sup_known hV hk hx) hn with h2 | h2
    · exact h2.symm
    · exact absurd (h.trans h2) (hV.no_loop _)
theorem known_objB : knownB l objB = true := by unfold knownB; rw [classOf_obj]; rfl
theorem sup_top (hV : Valid l) (hx : x ∈ supF l objB) : x = objB := by
  rcases sup_up hV known_objB hx with h | h
  · exact h.symm
  · exact absurd h obj_up
/-- The first of the superclasses of the one that is one of the other. -/
def joinC (l : List ClassD) (m n : List UInt8) : List UInt8 := ((supF l m).find? (fun x => (supF l n).any (· == x))).getD objB
theorem joinC_is (hV : Valid l) {m : List UInt8} (hm : knownB l m = true) (hn : knownB l n = true) : joinC l m n ∈ supF l m ∧ joinC l m n ∈ supF l n ∧ ∀ z, z ∈ supF l m → z ∈ supF l n → z ∈ supF l (joinC l m n) := by
  unfold joinC
  cases h : (supF l m).find? (fun x => (supF l n).any (· == x)) with
  | none =>
    have := List.find?_eq_none.1 h objB (sup_obj hV hm)
    rw [any_mem.2 (sup_obj hV hn)] at this
    exact absurd rfl this
  | some j =>
    obtain ⟨h1, pre, post, e, h2⟩ := List.find?_eq_some_iff_append.1 h
    have hj : j ∈ supF l m := by rw [e]; simp
    refine ⟨hj, any_mem.1 (by simpa using h1), fun z hz hz2 => ?_⟩
    show z ∈ supF l j
    have hnot : z ∉ pre := fun hp => by
      have := h2 z hp
      rw [any_mem.2 hz2] at this
      cases this
    have hz' : z ∈ j :: post := by
      rw [e] at hz
      rcases List.mem_append.1 hz with h | h
      · exact absurd h hnot
      · exact h
    rw [(sup_chain hV (sup_known hV hm hj)).one ((sup_chain hV hm).split_ e)]
    exact hz'
end

/-- The first kind is below the second, in the order of which Join is the least upper bound. -/
def LeK (l : List ClassD) : KindD → KindD → Prop
  | _, .top => True
  | .top, _ => False
  | .nul, .nul => True
  | .nul, k => k.isRef = true
  | _, .nul => False
  | .word d c, .word e b => d = e ∧ c = b
  | .word d c, .cls e n => n = objB ∧ e < d
  | .cls _ _, .word _ _ => False
  | .cls d m, .cls e n => (d = e ∧ n ∈ supF l m) ∨ (e < d ∧ n = objB)
/-- The kind's class is there. -/
def KindD.there (l : List ClassD) : KindD → Prop
  | .cls _ n => knownB l n = true
  | _ => True
def joinK (l : List ClassD) (a b : KindD) : KindD :=
  if a = b then a else
  match a, b with
  | .nul, k => if k.isRef = true then k else .top
  | k, .nul => if k.isRef = true then k else .top
  | .word d c, .word e b => if 0 < d ∧ 0 < e then .cls (min d e - 1) objB else .top
  | .word d c, .cls e n => if 0 < d then .cls (min (d - 1) e) objB else .top
  | .cls e n, .word d c => if 0 < d then .cls (min (d - 1) e) objB else .top
  | .cls d m, .cls e n => if d = e then .cls d (joinC l m n) else .cls (min d e) objB
  | .top, _ => .top
  | _, .top => .top
section
variable {l : List ClassD} {a b c : KindD}
theorem LeK.refl (hV : Valid l) (ha : a.there l) : LeK l a a := by
  cases a with
  | nul => exact trivial
  | top => exact trivial
  | word d c => exact ⟨rfl, rfl⟩
  | cls d n => exact .inl ⟨rfl, sup_self hV ha⟩
theorem LeK.trans (hV : Valid l) (ha : a.there l) (h : LeK l a b) (k : LeK l b c) : LeK l a c := by
  cases c with
  | top => cases a <;> exact trivial
  | nul =>
    cases b with
    | top => exact k.elim
    | nul => exact h
    | word d c => exact k.elim
    | cls d n => exact k.elim
  | word e z =>
    cases b with
    | top => exact k.elim
    | nul =>
      cases a with
      | nul => exact k
      | top => exact h.elim
      | word d c => exact h.elim
      | cls d n => exact h.elim
    | word f y => obtain ⟨rfl, rfl⟩ := k; exact h
    | cls d n => exact k.elim
  | cls e z =>
    cases b with
    | top => exact k.elim
    | nul =>
      cases a with
      | nul => exact k
      | top => exact h.elim
      | word d c => exact h.elim
      | cls d n => exact h.elim
    | word f y =>
      cases a with
      | nul => exact rfl
      | top => exact h.elim
      | word d c => obtain ⟨rfl, rfl⟩ := h; exact k
      | cls d n => exact h.elim
    | cls f y =>
      cases a with
      | nul => exact rfl
      | top => exact h.elim
      | word d c =>
        obtain ⟨rfl, hf⟩ := h
        rcases k with ⟨rfl, hz⟩ | ⟨he, rfl⟩
        · exact ⟨sup_top hV hz, hf⟩
        · exact ⟨rfl, by omega⟩
      | cls d m =>
        rcases h with ⟨rfl, hm⟩ | ⟨hf, rfl⟩
        · rcases k with ⟨rfl, hk⟩ | ⟨he, rfl⟩
          · exact .inl ⟨rfl, sup_trans hV ha hm hk⟩
          · exact .inr ⟨he, rfl⟩
        · rcases k with ⟨rfl, hk⟩ | ⟨he, rfl⟩
          · exact .inr ⟨hf, sup_top hV hk⟩
          · exact .inr ⟨by omega, rfl⟩
theorem LeK.anti (hV : Valid l) (ha : a.there l) (h : LeK l a b) (k : LeK l b a) : a = b := by
  cases a with
  | nul =>
    cases b with
    | nul => rfl
    | top => exact k.elim
    | word d c => exact k.elim
    | cls d n => exact k.elim
  | top =>
    cases b with
    | nul => exact h.elim
    | top => rfl
    | word d c => exact h.elim
    | cls d n => exact h.elim
  | word d c =>
    cases b with
    | nul => exact h.elim
    | top => exact k.elim
    | word e z => obtain ⟨rfl, rfl⟩ := h; rfl
    | cls e n => exact k.elim
  | cls d m =>
    cases b with
    | nul => exact h.elim
    | top => exact k.elim
    | word e z => exact h.elim
    | cls e n =>
      rcases h with ⟨rfl, h⟩ | ⟨he, rfl⟩
      · rcases k with ⟨_, k⟩ | ⟨he, _⟩
        · rw [sup_anti hV ha h k]
        · omega
      · rcases k with ⟨rfl, _⟩ | ⟨he', _⟩ <;> omega
theorem LeK.fits (hV : Valid l) (ha : a.there l) (h : LeK l a b) : FitsD l a b := by
  cases b with
  | top => cases a <;> exact trivial
  | nul => cases a <;> exact h
  | word e z => cases a <;> exact h
  | cls e z =>
    cases a with
    | nul => exact h
    | top => exact h
    | word d c => exact h
    | cls d m =>
      rcases h with ⟨rfl, h⟩ | h
      · exact .inl ⟨rfl, (sup_up hV ha h).imp id .inr⟩
      · exact .inr h
/-- Join is the least upper bound. -/
theorem joinK_is (hV : Valid l) (ha : a.there l) (hb : b.there l) : (joinK l a b).there l ∧ LeK l a (joinK l a b) ∧ LeK l b (joinK l a b) ∧ ∀ c, LeK l a c → LeK l b c → LeK l (joinK l a b) c := by
  unfold joinK
  by_cases e : a = b
  · rw [if_pos e]
    subst e
    exact ⟨ha, LeK.refl hV ha, LeK.refl hV ha, fun c h _ => h⟩
  · rw [if_neg e]
    have topc : ∀ x : KindD, LeK l x .top := fun x => by cases x <;> exact trivial
    cases a with
    | nul =>
      cases b with
      | nul => exact absurd rfl e
      | top => exact ⟨trivial, topc _, topc _, fun c _ h => h⟩
      | word d z =>
        show (if decide (0 < d) = true then KindD.word d z else .top).there l ∧ LeK l .nul (if decide (0 < d) = true then KindD.word d z else .top) ∧ LeK l (.word d z) (if decide (0 < d) = true then KindD.word d z else .top) ∧ ∀ c, LeK l .nul c → LeK l (.word d z) c → LeK l (if decide (0 < d) = true then KindD.word d z else .top) c
        split
        · rename_i hd
          exact ⟨trivial, hd, ⟨rfl, rfl⟩, fun c _ h => h⟩
        · rename_i hd
          refine ⟨trivial, topc _, topc _, fun c h1 h2 => ?_⟩
          cases c with
          | top => exact trivial
          | nul => exact h2.elim
          | word x y => obtain ⟨rfl, rfl⟩ := h2; exact absurd h1 hd
          | cls x y => have := h2.2; simp at hd; omega
      | cls d n => exact ⟨hb, rfl, LeK.refl hV hb, fun c _ h => h⟩
    | top => cases b <;> exact ⟨trivial, topc _, topc _, fun c h _ => h⟩
    | word d z =>
      cases b with
      | nul =>
        show (if decide (0 < d) = true then KindD.word d z else .top).there l ∧ LeK l (.word d z) (if decide (0 < d) = true then KindD.word d z else .top) ∧ LeK l .nul (if decide (0 < d) = true then KindD.word d z else .top) ∧ ∀ c, LeK l (.word d z) c → LeK l .nul c → LeK l (if decide (0 < d) = true then KindD.word d z else .top) c
        split
        · rename_i hd
          exact ⟨trivial, ⟨rfl, rfl⟩, hd, fun c h _ => h⟩
        · rename_i hd
          refine ⟨trivial, topc _, topc _, fun c h1 h2 => ?_⟩
          cases c with
          | top => exact trivial
          | nul => exact h1.elim
          | word x y => obtain ⟨rfl, rfl⟩ := h1; exact absurd h2 hd
          | cls x y => have := h1.2; simp at hd; omega
      | top => exact ⟨trivial, topc _, topc _, fun c _ h => h⟩
      | word f y =>
        show (if 0 < d ∧ 0 < f then KindD.cls (min d f - 1) objB else .top).there l ∧ LeK l (.word d z) (if 0 < d ∧ 0 < f then KindD.cls (min d f - 1) objB else .top) ∧ LeK l (.word f y) (if 0 < d ∧ 0 < f then KindD.cls (min d f - 1) objB else .top) ∧ ∀ c, LeK l (.word d z) c → LeK l (.word f y) c → LeK l (if 0 < d ∧ 0 < f then KindD.cls (min d f - 1) objB else .top) c
        split
        · rename_i hd
          refine ⟨known_objB, ⟨rfl, by omega⟩, ⟨rfl, by omega⟩, fun c h1 h2 => ?_⟩
          cases c with
          | top => exact trivial
          | nul => exact h1.elim
          | word x u => obtain ⟨rfl, rfl⟩ := h1; obtain ⟨rfl, rfl⟩ := h2; exact absurd rfl e
          | cls x u =>
            obtain ⟨rfl, h1⟩ := h1
            have h2 := h2.2
            by_cases hx : min d f - 1 = x
            · exact .inl ⟨hx, sup_self hV known_objB⟩
            · exact .inr ⟨by omega, rfl⟩
        · rename_i hd
          refine ⟨trivial, topc _, topc _, fun c h1 h2 => ?_⟩
          cases c with
          | top => exact trivial
          | nul => exact h1.elim
          | word x u => obtain ⟨rfl, rfl⟩ := h1; obtain ⟨rfl, rfl⟩ := h2; exact absurd rfl e
          | cls x u => have := h1.2; have := h2.2; omega
      | cls f n =>
        show (if 0 < d then KindD.cls (min (d - 1) f) objB else .top).there l ∧ LeK l (.word d z) (if 0 < d then KindD.cls (min (d - 1) f) objB else .top) ∧ LeK l (.cls f n) (if 0 < d then KindD.cls (min (d - 1) f) objB else .top) ∧ ∀ c, LeK l (.word d z) c → LeK l (.cls f n) c → LeK l (if 0 < d then KindD.cls (min (d - 1) f) objB else .top) c
        split
        · rename_i hd
          refine ⟨known_objB, ⟨rfl, by omega⟩, ?_, fun c h1 h2 => ?_⟩
          · by_cases hx : f = min (d - 1) f
            · exact .inl ⟨hx, sup_obj hV hb⟩
            · exact .inr ⟨by omega, rfl⟩
          · cases c with
            | top => exact trivial
            | nul => exact h1.elim
            | word x u => exact h2.elim
            | cls x u =>
              obtain ⟨rfl, h1⟩ := h1
              have h3 : x ≤ f := by rcases h2 with ⟨h, _⟩ | ⟨h, _⟩ <;> omega
              by_cases hx : min (d - 1) f = x
              · exact .inl ⟨hx, sup_self hV known_objB⟩
              · exact .inr ⟨by omega, rfl⟩
        · rename_i hd
          refine ⟨trivial, topc _, topc _, fun c h1 h2 => ?_⟩
          cases c with
          | top => exact trivial
          | nul => exact h1.elim
          | word x u => exact h2.elim
          | cls x u => have := h1.2; omega
    | cls d m =>
      cases b with
      | nul => exact ⟨ha, LeK.refl hV ha, rfl, fun c h _ => h⟩
      | top => exact ⟨trivial, topc _, topc _, fun c _ h => h⟩
      | word f y =>
        show (if 0 < f then KindD.cls (min (f - 1) d) objB else .top).there l ∧ LeK l (.cls d m) (if 0 < f then KindD.cls (min (f - 1) d) objB else .top) ∧ LeK l (.word f y) (if 0 < f then KindD.cls (min (f - 1) d) objB else .top) ∧ ∀ c, LeK l (.cls d m) c → LeK l (.word f y) c → LeK l (if 0 < f then KindD.cls (min (f - 1) d) objB else .top) c
        split
        · rename_i hd
          refine ⟨known_objB, ?_, ⟨rfl, by omega⟩, fun c h2 h1 => ?_⟩
          · by_cases hx : d = min (f - 1) d
            · exact .inl ⟨hx, sup_obj hV ha⟩
            · exact .inr ⟨by omega, rfl⟩
          · cases c with
            | top => exact trivial
            | nul => exact h1.elim
            | word x u => exact h2.elim
            | cls x u =>
              obtain ⟨rfl, h1⟩ := h1
              have h3 : x ≤ d := by rcases h2 with ⟨h, _⟩ | ⟨h, _⟩ <;> omega
              by_cases hx : min (f - 1) d = x
              · exact .inl ⟨hx, sup_self hV known_objB⟩
              · exact .inr ⟨by omega, rfl⟩
        · rename_i hd
          refine ⟨trivial, topc _, topc _, fun c h2 h1 => ?_⟩
          cases c with
          | top => exact trivial
          | nul => exact h1.elim
          | word x u => exact h2.elim
          | cls x u => have := h1.2; omega
      | cls f n =>
        show (if d = f then KindD.cls d (joinC l m n) else .cls (min d f) objB).there l ∧ LeK l (.cls d m) (if d = f then KindD.cls d (joinC l m n) else .cls (min d f) objB) ∧ LeK l (.cls f n) (if d = f then KindD.cls d (joinC l m n) else .cls (min d f) objB) ∧ ∀ c, LeK l (.cls d m) c → LeK l (.cls f n) c → LeK l (if d = f then KindD.cls d (joinC l m n) else .cls (min d f) objB) c
        split
        · rename_i hd
          subst hd
          obtain ⟨h1, h2, h3⟩ := joinC_is hV ha hb
          refine ⟨sup_known hV ha h1, .inl ⟨rfl, h1⟩, .inl ⟨rfl, h2⟩, fun c k1 k2 => ?_⟩
          cases c with
          | top => exact trivial
          | nul => exact k1.elim
          | word x u => exact k1.elim
          | cls x u =>
            rcases k1 with ⟨rfl, k1⟩ | ⟨hx, rfl⟩
            · rcases k2 with ⟨_, k2⟩ | ⟨hx, _⟩
              · exact .inl ⟨rfl, h3 _ k1 k2⟩
              · omega
            · exact .inr ⟨hx, rfl⟩
        · rename_i hd
          refine ⟨known_objB, ?_, ?_, fun c k1 k2 => ?_⟩
          · by_cases hx : d = min d f
            · exact .inl ⟨hx, sup_obj hV ha⟩
            · exact .inr ⟨by omega, rfl⟩
          · by_cases hx : f = min d f
            · exact .inl ⟨hx, sup_obj hV hb⟩
            · exact .inr ⟨by omega, rfl⟩
          · cases c with
            | top => exact trivial
            | nul => exact k1.elim
            | word x u => exact k1.elim
            | cls x u =>
              have hxo : u = objB ∧ x ≤ min d f := by
                rcases k1 with ⟨h, _⟩ | ⟨h, rfl⟩
                · rcases k2 with ⟨h', _⟩ | ⟨h', rfl⟩
                  · omega
                  · exact ⟨rfl, by omega⟩
                · rcases k2 with ⟨h', _⟩ | ⟨h', _⟩ <;> exact ⟨rfl, by omega⟩
              obtain ⟨rfl, hxm⟩ := hxo
              by_cases hx : min d f = x
              · exact .inl ⟨hx, sup_self hV known_objB⟩
              · exact .inr ⟨by omega, rfl⟩
theorem joinK_eq (hV : Valid l) (ha : a.there l) (hb : b.there l) : LeK l a b ↔ joinK l a b = b := by
  obtain ⟨h0, h1, h2, h3⟩ := joinK_is hV ha hb
  constructor
  · exact fun h => LeK.anti hV h0 (h3 b h (LeK.refl hV hb)) h2
  · intro h
    rw [h] at h1
    exact h1
theorem joinK_self (l : List ClassD) (a : KindD) : joinK l a a = a := by unfold joinK; rw [if_pos rfl]
theorem joinK_comm (hV : Valid l) (ha : a.there l) (hb : b.there l) : joinK l a b = joinK l b a := by
  obtain ⟨h0, h1, h2, h3⟩ := joinK_is hV ha hb
  obtain ⟨k0, k1, k2, k3⟩ := joinK_is hV hb ha
  exact LeK.anti hV h0 (h3 _ k2 k1) (k3 _ h2 h1)
theorem joinK_assoc (hV : Valid l) (ha : a.there l) (hb : b.there l) (hc : c.there l) : joinK l (joinK l a b) c = joinK l a (joinK l b c) := by
  obtain ⟨h0, h1, h2, h3⟩ := joinK_is hV ha hb
  obtain ⟨k0, k1, k2, k3⟩ := joinK_is hV hb hc
  obtain ⟨p0, p1, p2, p3⟩ := joinK_is hV h0 hc
  obtain ⟨q0, q1, q2, q3⟩ := joinK_is hV ha k0
  refine LeK.anti hV p0 (p3 _ (h3 _ q1 (LeK.trans hV hb k1 q2)) (LeK.trans hV hc k2 q2)) (q3 _ (LeK.trans hV ha h1 p1) (k3 _ (LeK.trans hV hb h2 p1) p2))
end
section
variable {l : List ClassD} {a b : KindD}
theorem known_name (hJ : Joined l) {n : List UInt8} (h : knownB l n = true) : nameB n = true := by
  obtain ⟨c, hc⟩ := known_some h
  rcases classOf_in hc with ⟨rfl, _⟩ | ⟨rfl, _⟩ | ⟨hm, rfl⟩
  · decide
  · decide
  · have h1 := (classF_zero.1 (hJ.cls hm)).1
    rcases head_cases (c := c) with ⟨_, h2⟩ | ⟨h2, _⟩ | ⟨h2, _⟩ | ⟨h2, _⟩
    · rw [h2] at h1; cases h1
    · exact h2
    · exact h2
    · exact h2
theorem there_iff {k : KindD} (hk : k.ok) : kindE l k.text = 0 ↔ k.there l := by
  rw [kindE_text hk]
  cases k with
  | nul => exact ⟨fun _ => trivial, fun _ => rfl⟩
  | top => exact ⟨fun _ => trivial, fun _ => rfl⟩
  | word d c => exact ⟨fun _ => trivial, fun _ => rfl⟩
  | cls d n =>
    show (if n ≠ [] ∧ knownB l n = false then 3 else 0) = 0 ↔ knownB l n = true
    have hn : n ≠ [] := fun e => by have := hk.2; rw [e] at this; cases this
    cases h : knownB l n <;> simp [hn]
theorem joinK_ok (hV : Valid l) (ha : a.there l) (hb : b.there l) (hoa : a.ok) (hob : b.ok) : (joinK l a b).ok := by
  obtain ⟨h0, h1, h2, _⟩ := joinK_is hV ha hb
  cases hj : joinK l a b with
  | nul => exact trivial
  | top => exact trivial
  | word d c =>
    rw [hj] at h1 h2
    cases a with
    | nul =>
      cases b with
      | nul => rw [joinK_self] at hj; cases hj
      | top => exact h2.elim
      | word e y => obtain ⟨rfl, rfl⟩ := h2; exact hob
      | cls e n => exact h2.elim
    | top => exact h1.elim
    | word e y => obtain ⟨rfl, rfl⟩ := h1; exact hoa
    | cls e n => exact h1.elim
  | cls d n =>
    rw [hj] at h0 h1 h2
    refine ⟨?_, known_name hV.1 h0⟩
    cases a with
    | nul =>
      cases b with
      | nul => rw [joinK_self] at hj; cases hj
      | top => exact h2.elim
      | word e y => have := h2.2; have := hob.1; omega
      | cls e m => have := hob.1; rcases h2 with ⟨h, _⟩ | ⟨h, _⟩ <;> omega
    | top => exact h1.elim
    | word e y => have := h1.2; have := hoa.1; omega
    | cls e m => have := hoa.1; rcases h1 with ⟨h, _⟩ | ⟨h, _⟩ <;> omega
end
end Go.Proofs.YtkolpbjpgobkcaaGreatDoor
namespace Go.Proofs.YtkolpbjpgobkcaaGreatDoor
open Go.RowKit
set_option linter.unusedVariables false

/-! The first of a list. -/
section
variable {α β : Type} {f : α → Option β} {p : α → Bool} {l : List α} {k : Nat}
/-- None of the first k. -/
def NoneTo (f : α → Option β) (l : List α) (k : Nat) : Prop := ∀ (t : Nat) (ht : t < l.length), t < k → f l[t] = none
theorem NoneTo.start (f : α → Option β) (l : List α) : NoneTo f l 0 := fun t ht h => by omega
theorem NoneTo.next (h : NoneTo f l k) (hk : k < l.length) (h0 : f l[k] = none) : NoneTo f l (k + 1) := fun t ht hlt => by
  by_cases e : t = k
  · subst e; exact h0
  · exact h t ht (by omega)
theorem NoneTo.drop (h : NoneTo f l k) (hk : k ≤ l.length) : l.findSome? f = (l.drop k).findSome? f := by
  have e : l = l.take k ++ l.drop k := (List.take_append_drop _ _).symm
  have h0 : (l.take k).findSome? f = none := by
    rw [List.findSome?_eq_none_iff]
    intro x hx
    obtain ⟨t, ht, rfl⟩ := List.getElem_of_mem hx
    rw [List.getElem_take]
    rw [List.length_take] at ht
    exact h t (by omega) (by omega)
  rw (config := { occs := .pos [1] }) [e]
  rw [List.findSome?_append, h0, Option.none_or]
theorem NoneTo.hit (h : NoneTo f l k) (hk : k < l.length) {r : β} (h0 : f l[k] = some r) : l.findSome? f = some r := by
  rw [h.drop (by omega), List.drop_eq_getElem_cons hk, List.findSome?_cons, h0]
theorem NoneTo.all (h : NoneTo f l k) (hk : l.length ≤ k) : l.findSome? f = none := by
  rw [List.findSome?_eq_none_iff]
  intro x hx
  obtain ⟨t, ht, rfl⟩ := List.getElem_of_mem hx
  exact h t ht (by omega)
def NotTo (p : α → Bool) (l : List α) (k : Nat) : Prop := ∀ (t : Nat) (ht : t < l.length), t < k → p l[t] = false
theorem NotTo.start (p : α → Bool) (l : List α) : NotTo p l 0 := fun t ht h => by omega
theorem NotTo.next (h : NotTo p l k) (hk : k < l.length) (h0 : p l[k] = false) : NotTo p l (k + 1) := fun t ht hlt => by
  by_cases e : t = k
  · subst e; exact h0
  · exact h t ht (by omega)
theorem NotTo.hit (h : NotTo p l k) (hk : k < l.length) (h0 : p l[k] = true) : l.find? p = some l[k] := by
  have e : l = l.take k ++ l[k] :: l.drop (k + 1) := by rw [← List.drop_eq_getElem_cons hk, List.take_append_drop]
  have h1 : (l.take k).find? p = none := by
    rw [List.find?_eq_none]
    intro x hx
    obtain ⟨t, ht, rfl⟩ := List.getElem_of_mem hx
    rw [List.getElem_take]
    rw [List.length_take] at ht
    rw [h t (by omega) (by omega)]
    simp
  have h2 : (l.take k ++ l[k] :: l.drop (k + 1)).find? p = some l[k] := by rw [List.find?_append, h1, Option.none_or, List.find?_cons_of_pos h0]
  rw [← e] at h2
  exact h2
theorem NotTo.all (h : NotTo p l k) (hk : l.length ≤ k) : l.find? p = none := by
  rw [List.find?_eq_none]
  intro x hx
  obtain ⟨t, ht, rfl⟩ := List.getElem_of_mem hx
  rw [h t ht (by omega)]
  simp
end

def fieldIn (n : List UInt8) (c : ClassD) : Option FieldD := c.fields.find? (fun f => f.nm == n)
/-- The first class of the list that has a field of the name. -/
def fieldFirst (l : List ClassD) (n : List UInt8) (s : List (List UInt8)) : Option (List UInt8 × FieldD) := s.findSome? (fun x => (fieldIn n (classD l x)).map (fun f => (x, f)))
def methIn (n k : List UInt8) (c : ClassD) : Option MethD := c.meths.find? (fun m => m.nm == n && m.ty == k)
def methFirst (l : List ClassD) (n k : List UInt8) (s : List (List UInt8)) : Option (List UInt8 × MethD) := s.findSome? (fun x => (methIn n k (classD l x)).map (fun m => (x, m)))
/-- The first interface of the list that has such a method, abstract or not. -/
def ifaceFirst (l : List ClassD) (n k : List UInt8) (ab : Bool) (e : List (List UInt8)) : Option (List UInt8 × MethD) :=
  e.findSome? (fun x => match methIn n k (classD l x) with
    | some m => if ((classD l x).face && m.ab == ab) = true then some (x, m) else none
    | none => none)
/-- What Method finds: s the superclasses, e all classes, sorted. -/
def foundFirst (l : List ClassD) (n k : List UInt8) (s e : List (List UInt8)) : Option (List UInt8 × MethD) :=
  match methFirst l n k s with
  | some r => some r
  | none => match ifaceFirst l n k false e with
    | some r => some r
    | none => ifaceFirst l n k true e
/-- The types of all fields of the classes of a chain, the last class first. -/
def typesF (l : List ClassD) : List (List UInt8) → List (List UInt8)
  | [] => []
  | x :: t => typesF l t ++ (classD l x).fields.map (·.ty)
/-- The place of a field. -/
def placeF (l : List ClassD) (n : List UInt8) : List (List UInt8) → Option Nat
  | [] => none
  | x :: t => match (classD l x).fields.findIdx? (fun f => f.nm == n) with
    | some i => some ((typesF l t).length + i)
    | none => placeF l n t
end Go.Proofs.YtkolpbjpgobkcaaGreatDoor
