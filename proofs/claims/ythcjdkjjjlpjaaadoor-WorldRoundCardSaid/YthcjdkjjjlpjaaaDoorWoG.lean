/- A hierarchy in which a class extends one of its subclasses. No program. -/
import Derived.Test.YthcjdkjjjlpjaaaDoorWoN
namespace Go.Proofs.YthcjdkjjjlpjaaaDoor
open Go.RowKit
set_option linter.unusedVariables false

section
variable {l : List ClassD}
theorem names_apart (h : firstAt memF l = 0) {j k : Nat} (hj : j < l.length) (hk : k < l.length) (hjk : j < k) : l[j].nm ≠ l[k].nm := fun e => by
  have := (mem_class h hk).2
  have hm : l[j] ∈ l.take k := by
    rw [List.mem_take_iff_getElem]
    exact ⟨j, by omega, rfl⟩
  have : knownB (l.take k) l[k].nm = true := known_iff.2 (List.mem_cons_of_mem _ (List.mem_cons_of_mem _ (List.mem_map.2 ⟨_, hm, e⟩)))
  simp_all
theorem own_name (h : firstAt memF l = 0) {k : Nat} (hk : k < l.length) : l[k].nm ≠ objB ∧ l[k].nm ≠ fltB := by
  have := (mem_class h hk).2
  refine ⟨fun e => ?_, fun e => ?_⟩
  · rw [e] at this
    have h2 : knownB (l.take k) objB = true := by unfold knownB; rw [classOf_obj]; rfl
    rw [h2] at this; cases this
  · rw [e] at this
    have h2 : knownB (l.take k) fltB = true := by unfold knownB; rw [classOf_flt]; rfl
    rw [h2] at this; cases this
/-- Another class in the place of one of the same name. -/
def swapF (y : ClassD) (c : ClassD) : ClassD := if c.nm = y.nm then y else c
theorem swap_nm (y c : ClassD) : (swapF y c).nm = c.nm := by
  unfold swapF
  split
  · rename_i h; exact h.symm
  · rfl
theorem set_map (h : firstAt memF l = 0) {t : Nat} (ht : t < l.length) {y : ClassD} (hy : y.nm = l[t].nm) : l.set t y = l.map (swapF y) := by
  refine List.ext_getElem (by simp) fun j h1 h2 => ?_
  have hj : j < l.length := by simpa using h2
  have hy2 : ∀ c : ClassD, c.nm = y.nm → swapF y c = y := fun c h => if_pos h
  have hn2 : ∀ c : ClassD, c.nm ≠ y.nm → swapF y c = c := fun c h => if_neg h
  rw [List.getElem_set, List.getElem_map]
  by_cases e : t = j
  · subst e
    rw [if_pos rfl, hy2 _ hy.symm]
  · rw [if_neg e, hn2]
    intro e2
    rw [hy] at e2
    revert e2
    rcases Nat.lt_or_gt_of_ne e with hlt | hlt
    · exact fun e' => names_apart h ht hj hlt e'.symm
    · exact names_apart h hj ht hlt
theorem find_map (y : ClassD) (n : List UInt8) : ∀ (l : List ClassD), (l.map (swapF y)).find? (fun c => c.nm == n) = (l.find? (fun c => c.nm == n)).map (swapF y)
  | [] => rfl
  | c :: t => by
    rw [List.map_cons, List.find?_cons, List.find?_cons, swap_nm]
    cases (c.nm == n) with
    | true => rfl
    | false => exact find_map y n t
theorem classOf_map {y : ClassD} (h1 : y.nm ≠ objB) (h2 : y.nm ≠ fltB) (l : List ClassD) (n : List UInt8) : classOf (l.map (swapF y)) n = (classOf l n).map (swapF y) := by
  unfold classOf
  split
  · show some objC = some (swapF y objC)
    unfold swapF
    rw [if_neg (fun e => h1 e.symm)]
  · split
    · show some fltC = some (swapF y fltC)
      unfold swapF
      rw [if_neg (fun e => h2 e.symm)]
    · exact find_map y n l
theorem known_map {y : ClassD} (h1 : y.nm ≠ objB) (h2 : y.nm ≠ fltB) (l : List ClassD) (n : List UInt8) : knownB (l.map (swapF y)) n = knownB l n := by
  unfold knownB
  rw [classOf_map h1 h2]
  cases classOf l n <;> rfl
theorem face_map {y : ClassD} (h1 : y.nm ≠ objB) (h2 : y.nm ≠ fltB) {l : List ClassD} (hf : ∀ c ∈ l, c.nm = y.nm → c.face = y.face) (n : List UInt8) : faceB (l.map (swapF y)) n = faceB l n := by
  unfold faceB
  rw [classOf_map h1 h2]
  cases hc : classOf l n with
  | none => rfl
  | some c =>
    show (swapF y c).face = c.face
    unfold swapF
    split
    · rename_i e
      rcases classOf_in hc with ⟨_, rfl⟩ | ⟨_, rfl⟩ | ⟨hm, _⟩
      · exact absurd e.symm h1
      · exact absurd e.symm h2
      · exact (hf c hm e).symm
    · rfl
theorem linkF_same {w v : List ClassD} (hk : ∀ n, knownB v n = knownB w n) (hf : ∀ n, faceB v n = faceB w n) (c : ClassD) : linkF v c = linkF w c := by
  unfold linkF
  rw [show knownB v = knownB w from funext hk, show faceB v = faceB w from funext hf]

theorem round_set (hV : Valid l) {a b : Nat} (ha : a < l.length) (hb : b < l.length) {s : List (List UInt8)} (hs : Chain l l[a].nm s) (hm : l[b].nm ∈ s) (hfa : l[a].face = false) (hfb : l[b].face = false) {y : ClassD}
    (hy : y = ⟨l[b].nm, l[a].nm, l[b].faces, l[b].face, l[b].fields, l[b].meths⟩) : WorldIs (l.set b y) 6 := by
  have hy1 : y.nm = l[b].nm := by rw [hy]
  obtain ⟨n1, n2⟩ := own_name hV.1.2.1 hb
  rw [← hy1] at n1 n2
  have hmap := set_map hV.1.2.1 hb hy1
  have hk := known_map n1 n2 l
  have hfc : ∀ c ∈ l, c.nm = y.nm → c.face = y.face := fun c hc e => by
    have h1 := classOf_mem hV.1.2.1 hc
    have h2 := classOf_at hV.1.2.1 hb
    rw [e, hy1, h2] at h1
    obtain rfl := Option.some.inj h1
    rw [hy]
  have hf := face_map n1 n2 hfc
  have hla := hV.1.link (List.getElem_mem ha)
  have hlb := link_zero (hV.1.link (List.getElem_mem hb))
  have hnA : l[a].nm ≠ [] := fun e => by
    have := (classF_zero.1 (hV.1.cls (List.getElem_mem ha))).1
    unfold headB_ at this
    rw [e] at this
    exact absurd this (by simp [nameB])
  have hkA : knownB l l[a].nm = true := by unfold knownB; rw [classOf_at hV.1.2.1 ha]; rfl
  have hcy : classF y = 0 := by
    obtain ⟨h1, h2, h3, h4, h5, h6⟩ := classF_zero.1 (hV.1.cls (List.getElem_mem hb))
    have hA := (classF_zero.1 (hV.1.cls (List.getElem_mem ha))).1
    unfold headB_ at h1 hA
    rw [Bool.and_eq_true] at h1 hA
    rw [hy]
    exact classF_zero.2 ⟨by unfold headB_; rw [h1.1, hA.1]; simp, h2, h3, h4, h5, h6⟩
  have hmem0 : firstAt memF (l.set b y) = 0 := firstAt_zero fun j hj => by
    have hj' : j < l.length := by simpa using hj
    rw [List.getElem_set]
    have hkn : knownB ((l.set b y).take j) l[j].nm = false := by
      rw [hmap, ← List.map_take, known_map n1 n2]
      exact (mem_class hV.1.2.1 hj').2
    split
    · rename_i e
      subst e
      unfold memF
      rw [hcy, if_neg (by simp), hy1, hkn]
      rfl
    · unfold memF
      rw [(mem_class hV.1.2.1 hj').1, if_neg (by simp), hkn]
      rfl
  have hlink0 : firstAt (fun _ c => linkF (l.set b y) c) (l.set b y) = 0 := firstAt_zero fun j hj => by
    have hj' : j < l.length := by simpa using hj
    show linkF (l.set b y) (l.set b y)[j] = 0
    rw [linkF_same (w := l) (fun n => by rw [hmap]; exact hk n) (fun n => by rw [hmap]; exact hf n), List.getElem_set]
    split
    · obtain ⟨_, k2, k3, k4, k5⟩ := hlb
      unfold linkF
      rw [hy]
      simp only
      rw [if_neg hnA, if_neg, if_neg, if_neg]
      · rw [hfb]; simp
      · rw [Bool.not_eq_true, Bool.or_eq_false_iff]
        refine ⟨?_, ?_⟩
        · unfold faceB; rw [classOf_at hV.1.2.1 ha]; exact hfa
        · rw [List.any_eq_false]
          intro x hx
          rw [k4 x hx]; simp
      · rw [Bool.not_eq_false, List.all_eq_true]
        intro x hx
        rcases List.mem_cons.1 hx with rfl | hx
        · exact hkA
        · exact k2 x (List.mem_cons_of_mem _ hx)
    · exact hV.1.link (List.getElem_mem hj')
  have hJ : Joined (l.set b y) := ⟨by rw [List.length_set]; exact hV.1.1, hmem0, hlink0⟩
  have hcl : ∀ {n : List UInt8} {c : ClassD}, classOf l n = some c → n ≠ y.nm → classOf (l.set b y) n = some c := fun {n c} h hn => by
    rw [hmap, classOf_map n1 n2, h]
    show some (swapF y c) = some c
    unfold swapF
    rw [if_neg (by rw [classOf_nm h]; exact hn)]
  have hys : classOf (l.set b y) y.nm = some y := by
    rw [hmap, classOf_map n1 n2, hy1, classOf_at hV.1.2.1 hb]
    show some (swapF y l[b]) = some y
    unfold swapF
    rw [if_pos hy1.symm]
  have hup : ∀ {n : List UInt8} {s : List (List UInt8)}, Chain l n s → y.nm ∈ s → n = y.nm ∨ Up (l.set b y) n y.nm := by
    intro n s h
    induction h with
    | top _ _ => intro hx; exact .inl (List.mem_singleton.1 hx).symm
    | @up n c t h hs _ ih =>
      intro hx
      by_cases e : n = y.nm
      · exact .inl e
      · rcases List.mem_cons.1 hx with hx | hx
        · exact .inl hx.symm
        · have hu := su_up (hcl h e) hs
          rcases ih hx with e' | hu'
          · exact .inr (.one (by rw [← e']; exact hu))
          · exact .inr (Up.ahead hu hu')
  have hsu : l[a].nm ∈ upsOf (l.set b y) y.nm := by
    have := su_up hys (by rw [hy]; exact hnA)
    rw [hy] at this ⊢
    exact this
  refine .inr (.inr (.inr (.inl ⟨hJ, ⟨y, List.mem_iff_getElem.2 ⟨b, by simpa using hb, by rw [List.getElem_set]; simp⟩, ?_⟩, rfl⟩)))
  rcases hup hs (by rw [hy1]; exact hm) with e | hu
  · rw [e] at hsu
    exact .one hsu
  · exact Up.ahead hsu hu
end
end Go.Proofs.YthcjdkjjjlpjaaaDoor
