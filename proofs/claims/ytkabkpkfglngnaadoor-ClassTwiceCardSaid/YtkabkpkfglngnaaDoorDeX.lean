/- The contracts of desc.Method and of the reference's MethodOf: the arguments and the result of a method type. -/
import Derived.Test.YtkabkpkfglngnaaDoorDeR
namespace Go.Proofs.YtkabkpkfglngnaaDoor
open Go.ChangeShapes Go.WideShapes Go.ChangeAt Go.RowKit
set_option linter.unusedVariables false
attribute [local go_sem] eqGuard_errV_nil eqGuard_errV_iface eql_errV_nil neq_errV_nil eql_errV_form

def methP (l : List UInt8) : List (List UInt8) × List UInt8 := (methodB l).getD ([], [])
def methF (l : List UInt8) : Nat := if (methodB l).isSome = true then 0 else 1
theorem headB_true {c : UInt8} {l : List UInt8} (h : headB c l = true) : ∃ r, l = c :: r := by
  cases l with
  | nil => cases h
  | cons d r => exact ⟨r, by rw [eq_of_beq (show (d == c) = true from h)]⟩
theorem meth_start {l : List UInt8} (h : headB 40 l = false) : methodB l = none := by
  cases l with
  | nil => rfl
  | cons d r =>
    have : ¬ d = 40 := by simpa [headB] using h
    simp [methodB, this]
theorem meth_step {t z : List UInt8} {xs : List (List UInt8)} (hc : cuts t = (xs ++ (cuts z).1, (cuts z).2)) (h : typeLen z ≠ 0) :
    cuts t = ((xs ++ [z.take (typeLen z)]) ++ (cuts (z.drop (typeLen z))).1, (cuts (z.drop (typeLen z))).2) := by
  rw [hc, cuts_step h]; simp
theorem meth_end {t z : List UInt8} {xs : List (List UInt8)} (hc : cuts t = (xs ++ (cuts z).1, (cuts z).2)) (h : headB 41 z = true) :
    methodB (40 :: t) = if xs.length ≤ 5 ∧ resultB (z.drop 1) = true then some (xs, z.drop 1) else none := by
  obtain ⟨r, rfl⟩ := headB_true h
  rw [cuts_end (typeLen_shut r)] at hc
  simp only [List.append_nil] at hc
  simp only [methodB, hc]
  simp
theorem meth_not {t z : List UInt8} {xs : List (List UInt8)} (hc : cuts t = (xs ++ (cuts z).1, (cuts z).2)) (h : headB 41 z = false) (h0 : typeLen z = 0) : methodB (40 :: t) = none := by
  rw [cuts_end h0] at hc
  simp only [List.append_nil] at hc
  simp only [methodB, hc]
  cases z with
  | nil => rfl
  | cons d r =>
    have : ¬ d = 41 := by simpa [headB] using h
    simp [this]
theorem meth_many {t z : List UInt8} {xs : List (List UInt8)} (hc : cuts t = (xs ++ (cuts z).1, (cuts z).2)) (h0 : typeLen z ≠ 0) (h5 : 5 ≤ xs.length) : methodB (40 :: t) = none := by
  rw [cuts_step h0] at hc
  simp only [methodB, hc]
  simp only [if_true]
  split
  · rfl
  · rw [if_neg]
    rintro ⟨_, h, _⟩
    simp at h
    omega
theorem methP_none {l : List UInt8} (h : methodB l = none) : methP l = ([], []) := by rw [methP, h]; rfl
theorem methF_none {l : List UInt8} (h : methodB l = none) : methF l = 1 := by rw [methF, h]; rfl
theorem methP_some {l : List UInt8} {a g} (h : methodB l = some (a, g)) : methP l = (a, g) := by rw [methP, h]; rfl
theorem methF_some {l : List UInt8} {a g} (h : methodB l = some (a, g)) : methF l = 0 := by rw [methF, h]; rfl

theorem str_info : (Tryd.prog.info? 9).map (fun i => (i.zero, i.size, i.bytes)) = some (some (.string ByteArray.empty), 1, 16) := by kernel_rfl
/-- What Method says of l: the list and the text that it returns, and the error. -/
def MethodSays (w : World) (l : List UInt8) (last : Value) (e : Ending) (w' : World) : Prop :=
  Below w.heap.size w w' ∧ ∃ v, e = .returned (.tuple #[v, .string (bs (methP l).2), last]) ∧ w'.ownsRow w.heap.size 9 1 v (methP l).1.length ((methP l).1.map strV)
theorem says_none {w w' : World} {l : List UInt8} {last : Value} (h : methodB l = none) (hb : Below w.heap.size w w') : MethodSays w l last (.returned (.tuple #[.slice none 0 0, .string ⟨#[]⟩, last])) w' := by
  refine ⟨hb, .slice none 0 0, ?_, ?_⟩
  · rw [methP_none h]; rfl
  · rw [methP_none h]; exact World.ownsRow_nil _ _ _ _
theorem says_some {w w' : World} {l : List UInt8} {last v : Value} {s : ByteArray} {a : List (List UInt8)} {g : List UInt8} (h : methodB l = some (a, g)) (hb : Below w.heap.size w w') (hs : s.data.toList = g)
    (hv : w'.ownsRow w.heap.size 9 1 v a.length (a.map strV)) : MethodSays w l last (.returned (.tuple #[v, .string s, last])) w' := by
  refine ⟨hb, v, ?_, ?_⟩
  · rw [methP_some h, bs_eq hs]
  · rw [methP_some h]; exact hv
theorem own_more {w' : World} {base : Nat} {v : Value} {xs : List (List UInt8)} {s : ByteArray} {l : List UInt8} (hs : s.data.toList = l) (h : w'.ownsRow base 9 1 v (xs.length + 1) (xs.map strV ++ [.string s])) :
    w'.ownsRow base 9 1 v (xs ++ [l]).length ((xs ++ [l]).map strV) := by
  rw [List.map_append, List.length_append]
  rw [bs_eq hs] at h
  exact h
theorem ret_meth {s : ByteArray} {n : Nat} {v : Value} {w w' : World} (hn : n = methF s.data.toList) (h : MethodSays w s.data.toList (errV n) (.returned v) w') : MethodSays w s.data.toList (errV (methF s.data.toList)) (.returned v) w' := hn ▸ h
theorem ext_take (s : ByteArray) (k : Nat) : (s.extract 0 k).data.toList = s.data.toList.take k := by simp
theorem ext_size (s : ByteArray) (a b : Nat) (h : b ≤ s.size) : (s.extract a b).size ≤ s.size := by rw [ByteArray.size_extract]; omega
theorem in_string {k : Nat} {s : ByteArray} (h : k ≤ s.size) : (0 : Int) ≤ (k : Int) ∧ ((k : Int) ≤ (s.size : Int)) := by omega
set_option maxHeartbeats 2000000 in
theorem method_any (s : ByteArray) (w : World) (hs : s.size ≤ 140737488351232) :
    Calls Tryd.prog 24 #[.string s] w (MethodSays w s.data.toList (errV (methF s.data.toList))) := by
  obtain ⟨i0, hi, hz0, hz1, hz2⟩ := info_parts str_info
  have hcl := Lib.hid (fun (z : ByteArray) (h : z.size ≤ s.size) w => clone_any z w (by omega))
  have hre := Lib.hid (fun (z : ByteArray) (h : z.size ≤ s.size) w => isResult_any z w (by unfold maxLen; omega))
  have hty := Lib.hid (fun (z : ByteArray) (h : z.size ≤ s.size) w => size_any z w (by unfold maxLen; omega))
  have hhp := Lib.hid (fun (z : ByteArray) (c : UInt8) w => hasPrefix_any z c w)
  by_cases h40 : headB 40 s.data.toList = true
  · obtain ⟨t, ht⟩ := headB_true h40
    have h1 : 1 ≤ s.size := by
      have e : s.data.toList.length = s.size := by simp
      rw [ht] at e; simp at e; omega
    have HT := Lib.hid ht
    have hz1 : (s.extract 1 s.size).data.toList = t := by rw [ext_drop, ht]; rfl
    have HZ := Lib.hid hz1
    clear ht hz1
    go_enter Tryd.func24, Tryd.ntmps24
    go_wp2_with (first
      | (go_at_call 36; with_reducible refine (hhp.out _ 40 _).mono ?_; rintro e w' ⟨rfl, rfl⟩))
    go_loopw [5, 6] (fun r v wr => ∃ (z : ByteArray) (xs : List (List UInt8)) (A : Option Addr) (c : Nat), r = .string z ∧ v = .slice A xs.length c ∧ z.size ≤ s.size ∧ xs.length ≤ 5 ∧ Hid (cuts t = (xs ++ (cuts z.data.toList).1, (cuts z.data.toList).2)) ∧ Hid (wr.ownsRow w.heap.size 9 1 v xs.length (xs.map strV)) ∧ Hid (Below w.heap.size w wr))
      (fun r _ _ => (match r with | .string z => z.size | _ => 0))
    case atStart => exact ⟨_, [], none, 0, rfl, rfl, ext_size _ _ _ (Nat.le_refl _), Nat.zero_le _, Lib.hid (by rw [HZ.out]; rfl), Lib.hid (World.ownsRow_nil _ _ _ _), Lib.hid (Below.refl _ _)⟩
    case round =>
      obtain ⟨z, xs, A, c, rfl, rfl, hzs, hx5, HC, HO, HB⟩ := hrel
      have hh := Lib.hid (fun w => hhp.out z 41 w)
      have hext := ext_size z 1 z.size (Nat.le_refl _)
      have hsz := HB.out.size
      by_cases h41 : headB 41 z.data.toList = true
      · have hz1 : 1 ≤ z.size := by
          obtain ⟨r, hr⟩ := headB_true h41
          have e : z.data.toList.length = z.size := by simp
          rw [hr] at e; simp at e; omega
        have HE := Lib.hid (meth_end HC.out h41)
        have HX := Lib.hid (ext_drop z 1)
        have hr1 := Lib.hid (fun w => hre.out (z.extract 1 z.size) (by omega) w)
        have hc1 := Lib.hid (fun w => hcl.out (z.extract 1 z.size) (by omega) w)
        rw [h41] at hh
        rw [ext_drop] at hr1
        clear h41
        by_cases hr : resultB (z.data.toList.drop 1) = true
        · have HS := Lib.hid (show methodB s.data.toList = some (xs, z.data.toList.drop 1) by rw [HT.out, HE.out, if_pos ⟨hx5, hr⟩])
          rw [hr] at hr1
          clear hr HE
          go_wp2_with (first
            | (go_at_call 36; with_reducible refine (hh.out _).mono ?_; rintro e w' ⟨rfl, rfl⟩)
            | (go_at_call 38; with_reducible refine (hr1.out _).mono ?_; rintro e w' ⟨rfl, rfl⟩)
            | (go_at_call 37; with_reducible refine (hc1.out _).mono ?_; rintro e w' ⟨rfl, hb⟩))
          go_ret3
          exact ret_meth (methF_some HS.out).symm (says_some HS.out (HB.out.trans (hb.mono hsz)) HX.out (own_below HO.out hb))
        · have hrf : resultB (z.data.toList.drop 1) = false := by simpa using hr
          have HS := Lib.hid (show methodB s.data.toList = none by rw [HT.out, HE.out, if_neg (fun h => hr h.2)])
          rw [hrf] at hr1
          clear hr HE hrf
          go_wp2_with (first
            | (go_at_call 36; with_reducible refine (hh.out _).mono ?_; rintro e w' ⟨rfl, rfl⟩)
            | (go_at_call 38; with_reducible refine (hr1.out _).mono ?_; rintro e w' ⟨rfl, rfl⟩))
          go_ret3
          exact ret_meth (methF_none HS.out).symm (says_none HS.out HB.out)
      · have h41' : headB 41 z.data.toList = false := by simpa using h41
        rw [h41'] at hh
        have ht1 := Lib.hid (fun w => hty.out z (by omega) w)
        by_cases h0 : typeLen z.data.toList = 0
        · have HS := Lib.hid (show methodB s.data.toList = none by rw [HT.out, meth_not HC.out h41' h0])
          rw [h0] at ht1
          clear h0 h41 h41'
          go_wp2_with (first
            | (go_at_call 36; with_reducible refine (hh.out _).mono ?_; rintro e w' ⟨rfl, rfl⟩)
            | (go_at_call 34; with_reducible refine (ht1.out _).mono ?_; rintro e w' ⟨rfl, rfl⟩))
          go_ret3
          exact ret_meth (methF_none HS.out).symm (says_none HS.out HB.out)
        · have hle : typeLen z.data.toList ≤ z.size := by have := typeLen_le z.data.toList; simpa using this
          have HN := Lib.hid (fun h => meth_many HC.out h0 h)
          have HC2 := Lib.hid (meth_step HC.out h0)
          obtain ⟨n, hn⟩ : ∃ n, n = typeLen z.data.toList := ⟨_, rfl⟩
          rw [← hn] at ht1 h0 hle HC2
          have hne : ((n : Int) == 0) = false := by rw [beq_eq_false_iff_ne]; omega
          have hn0 : 0 < n := by omega
          clear hn h0 h41 h41'
          by_cases h5 : xs.length = 5
          · have HS := Lib.hid (show methodB s.data.toList = none by rw [HT.out]; exact HN.out (by omega))
            have h5i : ((xs.length : Int) == 5) = true := by rw [h5]; rfl
            clear h5
            go_wp2_with (first
              | (go_at_call 36; with_reducible refine (hh.out _).mono ?_; rintro e w' ⟨rfl, rfl⟩)
              | (go_at_call 34; with_reducible refine (ht1.out _).mono ?_; rintro e w' ⟨rfl, rfl⟩))
            go_ret3
            exact ret_meth (methF_none HS.out).symm (says_none HS.out HB.out)
          · have h5i : ((xs.length : Int) == 5) = false := by rw [beq_eq_false_iff_ne]; omega
            have hx4 : xs.length ≤ 4 := by omega
            have he1 := ext_size z 0 n hle
            have he2 := ext_size z n z.size (Nat.le_refl _)
            have hc1 := Lib.hid (fun w => hcl.out (z.extract 0 n) (by omega) w)
            clear h5
            go_wp2_with (first
              | (go_at_call 36; with_reducible refine (hh.out _).mono ?_; rintro e w' ⟨rfl, rfl⟩)
              | (go_at_call 34; with_reducible refine (ht1.out _).mono ?_; rintro e w' ⟨rfl, rfl⟩)
              | (go_at_call 37; with_reducible refine (hc1.out _).mono ?_; rintro e w1 ⟨rfl, hb⟩; have HO1 := Lib.hid (own_below HO.out hb))
              | (at_builtin; refine wpList_append_own _ rfl _ _ 22 rfl w.heap.size 9 i0 (.string ByteArray.empty) 1 16 Tryd.underlying22 hi hz0 hz1 hz2 rfl (by decide) _ _ _ rfl (HO1.out.alloc _) ⟨w1.heap.size, 0, none⟩ 1 1 [.string (z.extract 0 n)] rfl rfl (cell_one_new _ _ _) (fun x hx => by simp at hx; subst hx; rfl) (by unfold maxLen; omega) (by omega) (by have := hb.size; simp; omega) ?_; intro v' w3 hown' hgrow3 hnil3; have HO2 := Lib.hid hown'; have HG := Lib.hid hgrow3; clear hown' hgrow3 hnil3))
            go_roundw
            case rel =>
              obtain ⟨A', c', rfl⟩ := own_form HO2.out
              refine ⟨z.extract n z.size, xs ++ [z.data.toList.take n], A', c', rfl, by simp, by omega, by simp; omega, Lib.hid (by rw [ext_drop]; exact HC2.out), Lib.hid (own_more (ext_take z n) HO2.out), Lib.hid ?_⟩
              have hbs := hb.size
              exact ((HB.out.trans (hb.mono hsz)).alloc (by omega) _).grown HG.out (by simp; omega) (fun q hq => (HO1.out.lt q hq).1)
            case measure => simp; omega
  · have h40' : headB 40 s.data.toList = false := by simpa using h40
    have hh := Lib.hid (fun w => hhp.out s 40 w)
    rw [h40'] at hh
    have HS := Lib.hid (meth_start h40')
    clear h40 h40'
    go_enter Tryd.func24, Tryd.ntmps24
    go_wp2_with (first
      | (go_at_call 36; with_reducible refine (hh.out _).mono ?_; rintro e w' ⟨rfl, rfl⟩))
    go_ret3
    exact ret_meth (methF_none HS.out).symm (says_none HS.out (Below.refl _ _))
end Go.Proofs.YtkabkpkfglngnaaDoor
