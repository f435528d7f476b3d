/- Package find: given, ownField, ownMethod, the closures. -/
import Derived.Test.YtkolpbjpgobkcaaDoorFiK
import Derived.Test.YtkolpbjpgobkcaaDoorFiN
import Derived.Test.YtkolpbjpgobkcaaDoorGB
import Derived.Test.YtkolpbjpgobkcaaDoorWoF
import Derived.Deep.RegionHeld
namespace Go.Proofs.YtkolpbjpgobkcaaDoor
open Go.ChangeShapes Go.WideShapes Go.ChangeAt Go.RowKit
set_option linter.unusedVariables false

set_option maxHeartbeats 2000000 in
theorem gsame_any (x : ClassD) (y : List UInt8) (A : Option Addr) (i j : Nat) (B : Option Addr) (k l : Nat) (C : Option Addr) (m n : Nat) (b : Nat) (w : World) (h : w.cell? ⟨b, 0, none⟩ = some (.string (bs y))) (hb : b < w.heap.size) :
    Calls Tryd.prog 35 #[classV x A i j B k l C m n, .pointer (some ⟨b, 0, none⟩)] w fun e w' => e = .returned (.bool (x.nm == y)) ∧ Below w.heap.size w w' := by
  unfold classV
  by_cases he : x.nm = y
  · have e : (x.nm == y) = true := by simpa using he
    rw [e]
    rw [← he] at h
    clear e he
    go_enter Tryd.func35, Tryd.ntmps35
    go_wp2
    go_ret
    exact ⟨rfl, al1 _ _⟩
  · have e : (x.nm == y) = false := by simpa using he
    rw [e]
    have hne := str_ne he
    clear e he
    go_enter Tryd.func35, Tryd.ntmps35
    go_wp2
    go_ret
    exact ⟨rfl, al1 _ _⟩

set_option maxRecDepth 20000 in
set_option maxHeartbeats 4000000 in
theorem gindex_any (l : List ClassD) (y : List UInt8) (b : Nat) (A : Option Addr) (n c : Nat) (w : World) (R : ClassRow w A n c l) (hn : n ≤ 140737488351232) (h : w.cell? ⟨b, 0, none⟩ = some (.string (bs y))) (hb : b < w.heap.size) :
    Calls Tryd.prog 34 #[.slice A n c, .func (.func 35) #[] #[.pointer (some ⟨b, 0, none⟩)]] w
      fun e w' => ∃ k : Int, e = .returned (.int .i64 k) ∧ ((∃ m : Nat, ∃ hm : m < l.length, k = (m : Int) ∧ NotTo (fun c => c.nm == y) l m ∧ (l[m].nm == y) = true) ∨ (k = -1 ∧ l.find? (fun c => c.nm == y) = none)) ∧ Below w.heap.size w w' := by
  have hl : l.length = n := R.1
  have HL := Lib.hid hl
  have HR := Lib.hid R
  have HC := Lib.hid (fun (W : World) (x : ClassD) A i j B k l C m n (hB : Below w.heap.size w W) => gsame_any x y A i j B k l C m n b W ((hB.cell (p := ⟨b, 0, none⟩) hb).trans h) (Nat.lt_of_lt_of_le hb hB.size))
  clear hl R h hb
  go_enter Tryd.func34, Tryd.ntmps34
  go_wp2
  go_loopw [5, 8] (fun _ i wr => ∃ k : Nat, k ≤ n ∧ i = .int .i64 k ∧ Hid (NotTo (fun c => c.nm == y) l k) ∧ Hid (Below w.heap.size w wr)) (fun _ i _ => n - (intOf i).toNat)
  case atStart => exact ⟨0, Nat.zero_le _, rfl, Lib.hid (NotTo.start _ _), Lib.hid (Below.refl _ _)⟩
  case round =>
    obtain ⟨k, hk, rfl, HT, HB⟩ := hrel
    by_cases hlt : k < n
    · obtain ⟨b1, o1, rfl, hb1, hx1⟩ := SRow.at_ (ClassRow.below HR.out HB.out) hlt
      have hk1 : k < l.length := by rw [HL.out]; exact hlt
      have HX := HC.out wr l[k]
      have HTN := Lib.hid (show (l[k].nm == y) = false → _ from fun h => HT.out.next hk1 h)
      have HTA := Lib.hid (show (l[k].nm == y) = true → ∃ hm : k < l.length, NotTo (fun c => c.nm == y) l k ∧ (l[k].nm == y) = true from fun h => ⟨hk1, HT.out, h⟩)
      generalize hxk : l[k] = x at *
      obtain ⟨c0, c1, ⟨A1, i1, j1, c2, _, _⟩, c3, ⟨A2, i2, j2, c4, _, _⟩, ⟨A3, i3, j3, c5, _, _⟩⟩ := hx1
      replace HX := HX A1 i1 j1 A2 i2 j2 A3 i3 j3
      unfold classV at HX
      cases he : (x.nm == y) with
      | true =>
        rw [he] at HX
        replace HX := Lib.hid HX
        have HA := Lib.hid (HTA.out he)
        have HK := Lib.hid hxk
        clear HTN HTA he hxk
        go_wp2_with (first
          | (go_at_call 35; (with_reducible refine (HX.out HB.out).mono ?_); rintro e w1 ⟨rfl, hb⟩
             have HB1 := Lib.hid (bnext HB.out hb)
             clear hb))
        go_ret
        refine ⟨_, rfl, .inl ?_, HB1.out⟩
        obtain ⟨q1, q2, q3⟩ := HA.out
        exact ⟨k, q1, rfl, q2, q3⟩
      | false =>
        rw [he] at HX
        replace HX := Lib.hid HX
        have HA := Lib.hid (HTN.out he)
        clear HTN HTA he hxk
        go_wp2_with (first
          | (go_at_call 35; (with_reducible refine (HX.out HB.out).mono ?_); rintro e w1 ⟨rfl, hb⟩
             have HB1 := Lib.hid (bnext HB.out hb)
             clear hb))
        go_roundw
        case rel => exact ⟨k + 1, by omega, by go_num, HA, HB1⟩
        case measure => first | (simp [intOf]; omega) | simp [intOf]
    · obtain rfl : k = n := by omega
      have h := Lib.hid (HT.out.all (by rw [HL.out]; exact Nat.le_refl _))
      go_wp2
      go_ret
      exact ⟨_, rfl, .inr ⟨rfl, h.out⟩, HB.out⟩

theorem gindex_none {l : List ClassD} {y : List UInt8} {b : Nat} {A : Option Addr} {n c : Nat} {w : World} (R : ClassRow w A n c l) (hn : n ≤ 140737488351232) (h : w.cell? ⟨b, 0, none⟩ = some (.string (bs y))) (hb : b < w.heap.size) (hf : l.find? (fun c => c.nm == y) = none) :
    Calls Tryd.prog 34 #[.slice A n c, .func (.func 35) #[] #[.pointer (some ⟨b, 0, none⟩)]] w fun e w' => e = .returned (.int .i64 (-1)) ∧ Below w.heap.size w w' :=
  (gindex_any l y b A n c w R hn h hb).mono fun e w' ⟨k, he, hor, hB⟩ => by
    rcases hor with ⟨m, hm, _, hN, hy⟩ | ⟨rfl, _⟩
    · rw [hN.hit hm hy] at hf; cases hf
    · exact ⟨he, hB⟩
theorem gindex_some {l : List ClassD} {y : List UInt8} {b : Nat} {A : Option Addr} {n c : Nat} {w : World} (R : ClassRow w A n c l) (hn : n ≤ 140737488351232) (h : w.cell? ⟨b, 0, none⟩ = some (.string (bs y))) (hb : b < w.heap.size) {m : Nat} (hm : m < l.length) (hN : NotTo (fun c => c.nm == y) l m) (hy : (l[m].nm == y) = true) :
    Calls Tryd.prog 34 #[.slice A n c, .func (.func 35) #[] #[.pointer (some ⟨b, 0, none⟩)]] w fun e w' => e = .returned (.int .i64 (m : Int)) ∧ Below w.heap.size w w' :=
  (gindex_any l y b A n c w R hn h hb).mono fun e w' ⟨k, he, hor, hB⟩ => by
    rcases hor with ⟨k', hk, rfl, hN', hy'⟩ | ⟨_, hf⟩
    · have : k' = m := by
        rcases Nat.lt_trichotomy k' m with h | h | h
        · exact absurd (hy'.symm.trans (hN k' hk h)) (by decide)
        · exact h
        · exact absurd (hy.symm.trans (hN' m hm h)) (by decide)
      subst this
      exact ⟨he, hB⟩
    · rw [hN.hit hm hy] at hf; cases hf
theorem first_at {l : List ClassD} {y : List UInt8} {x : ClassD} (h : l.find? (fun c => c.nm == y) = some x) : ∃ m : Nat, ∃ hm : m < l.length, l[m] = x ∧ NotTo (fun c => c.nm == y) l m ∧ (l[m].nm == y) = true := by
  rw [List.find?_eq_some_iff_getElem] at h
  obtain ⟨h1, m, hm, h2, h3⟩ := h
  refine ⟨m, hm, h2, fun t ht hlt => ?_, by rw [h2]; exact h1⟩
  have := h3 t hlt
  show (l[t].nm == y) = false
  cases hh : (l[t].nm == y) with
  | false => rfl
  | true => rw [hh] at this; cases this

/-- What given says. -/
def GivenSays (w : World) (l : List ClassD) (y : List UInt8) (e : Ending) (w' : World) : Prop := ∃ v, e = .returned v ∧ Held w' (givenD l y) v ∧ Below w.heap.size w w'
theorem givenD_some {l : List ClassD} {y : List UInt8} {c : ClassD} (h : l.find? (fun c => c.nm == y) = some c) : givenD l y = c := by unfold givenD; rw [h]; rfl
theorem givenD_none {l : List ClassD} {y : List UInt8} (h : l.find? (fun c => c.nm == y) = none) : givenD l y = zeroC := by unfold givenD; rw [h]; rfl
set_option maxRecDepth 20000 in
set_option maxHeartbeats 4000000 in
theorem given_any (l : List ClassD) (y : List UInt8) (A : Option Addr) (n c : Nat) (w : World) (R : ClassRow w A n c l) (hn : n ≤ 140737488351232) :
    Calls Tryd.prog 24 #[.slice A n c, .string (bs y)] w (GivenSays w l y) := by
  have hl : l.length = n := R.1
  have hb1 := al1 w (.cells #[.string (bs y)] 9)
  have hb2 := bnext hb1 (al1 (w.alloc (.cells #[.string (bs y)] 9)) (.cells #[.string ⟨#[]⟩, .string ⟨#[]⟩, .slice none 0 0, .bool false, .slice none 0 0, .slice none 0 0] 31))
  have hld := laid6_at (w.alloc (.cells #[.string (bs y)] 9)) 31
  rw [show (w.alloc (.cells #[.string (bs y)] 9)).heap.size = w.heap.size + 1 by simp] at hld
  have hc0 := (cells_at w #[.string (bs y)] 9).below (al1 _ (.cells #[.string ⟨#[]⟩, .string ⟨#[]⟩, .slice none 0 0, .bool false, .slice none 0 0, .slice none 0 0] 31))
  have HB2 := Lib.hid hb2
  have HLd := Lib.hid hld
  cases hfd : l.find? (fun c => c.nm == y) with
  | none =>
    have HI := Lib.hid (gindex_none (ClassRow.below R hb2) hn (hc0.2 0) hc0.1 hfd)
    have HV := Lib.hid (givenD_none hfd)
    clear R hb1 hb2 hld hc0 hfd
    go_enter Tryd.func24, Tryd.ntmps24
    go_wp2_with (first
      | (go_at_call 34; (with_reducible refine HI.out.mono ?_); rintro e w1 ⟨rfl, hb⟩
         have HB1 := Lib.hid (bnext HB2.out hb)
         obtain ⟨g0, g1, g2, g3, g4, g5, f0, f1, f2, f3, f4, f5⟩ := HLd.out.below (by simp) hb
         clear hb))
    refine bodyPost_ret (v := .agg #[.string ⟨#[]⟩, .string ⟨#[]⟩, .slice none 0 0, .bool false, .slice none 0 0, .slice none 0 0]) ?_ rfl ⟨_, rfl, by rw [HV.out]; exact held_bare _ (c := zeroC) rfl rfl rfl, ?_⟩
    · simp [results, Tryd.results24, go_sem, *]
    · have B := HB1.out
      repeat (first | with_reducible exact B | with_reducible refine bput_ ?_ (Nat.le_succ _))
  | some x =>
    obtain ⟨m, hm, hx, hN, hy⟩ := first_at hfd
    have HI := Lib.hid (gindex_some (ClassRow.below R hb2) hn (hc0.2 0) hc0.1 hm hN hy)
    have HV := Lib.hid (givenD_some hfd)
    have hmn : m < n := by omega
    obtain ⟨b1, o1, rfl, hb1, hx1⟩ := SRow.at_ R hmn
    rw [hx] at hx1
    obtain ⟨c0, c1, ⟨A1, i1, j1, c2, R1, N1⟩, c3, ⟨A2, i2, j2, c4, R2, N2⟩, ⟨A3, i3, j3, c5, R3, N3⟩⟩ := hx1
    have HH := Lib.hid (show Held w x _ from ⟨A1, i1, j1, A2, i2, j2, A3, i3, j3, rfl, R1, R2, R3, N1, N2, N3⟩)
    have HL := Lib.hid hl
    have HX := Lib.hid (fun (w' : World) (hB : Below w.heap.size w w') => show _ ∧ _ ∧ _ ∧ _ ∧ _ ∧ _ from ⟨(hB.cell (by exact hb1)).trans c0, (hB.cell (by exact hb1)).trans c1, (hB.cell (by exact hb1)).trans c2, (hB.cell (by exact hb1)).trans c3, (hB.cell (by exact hb1)).trans c4, (hB.cell (by exact hb1)).trans c5⟩)
    clear R hb2 hld hc0 hfd hx hN hy hl hm R1 R2 R3 N1 N2 N3 c0 c1 c2 c3 c4 c5
    go_enter Tryd.func24, Tryd.ntmps24
    go_wp2_with (first
      | (go_at_call 34; (with_reducible refine HI.out.mono ?_); rintro e w1 ⟨rfl, hb⟩
         have HB1 := Lib.hid (bnext HB2.out hb)
         obtain ⟨c0, c1, c2, c3, c4, c5⟩ := HX.out _ HB1.out
         obtain ⟨g0, g1, g2, g3, g4, g5, f0, f1, f2, f3, f4, f5⟩ := HLd.out.below (by simp) hb
         clear hb))
    refine bodyPost_ret (v := .agg #[.string (bs x.nm), .string (bs x.su), .slice A1 i1 j1, .bool x.face, .slice A2 i2 j2, .slice A3 i3 j3]) ?_ rfl ⟨_, rfl, ?_, ?_⟩
    · simp [results, Tryd.results24, go_sem, *]
    · rw [HV.out]
      refine HH.out.below ?_
      have B := HB1.out
      repeat (first | with_reducible exact B | with_reducible refine bput_ ?_ (Nat.le_succ _))
    · have B := HB1.out
      repeat (first | with_reducible exact B | with_reducible refine bput_ ?_ (Nat.le_succ _))

/-- None of the first eight cells of the block is frozen. -/
def Free8 (w : World) (g : Nat) : Prop := g < w.heap.size ∧ w.frozen? ⟨g, 0, none⟩ = false ∧ w.frozen? ⟨g, 1, none⟩ = false ∧ w.frozen? ⟨g, 2, none⟩ = false ∧ w.frozen? ⟨g, 3, none⟩ = false ∧ w.frozen? ⟨g, 4, none⟩ = false ∧ w.frozen? ⟨g, 5, none⟩ = false ∧ w.frozen? ⟨g, 6, none⟩ = false ∧ w.frozen? ⟨g, 7, none⟩ = false
theorem free8_at (w : World) (vs : Array Value) (t : TypeId) : Free8 (w.alloc (.cells vs t)) w.heap.size := ⟨by simp, frozen_at .., frozen_at .., frozen_at .., frozen_at .., frozen_at .., frozen_at .., frozen_at .., frozen_at ..⟩
theorem Free8.below {w w' : World} {g : Nat} (h : Free8 w g) (hb : Below w.heap.size w w') : Free8 w' g := by
  obtain ⟨h0, f1, f2, f3, f4, f5, f6, f7, f8⟩ := h
  exact ⟨Nat.lt_of_lt_of_le h0 hb.size, (hb.frozen (by exact h0)).trans f1, (hb.frozen (by exact h0)).trans f2, (hb.frozen (by exact h0)).trans f3, (hb.frozen (by exact h0)).trans f4, (hb.frozen (by exact h0)).trans f5, (hb.frozen (by exact h0)).trans f6, (hb.frozen (by exact h0)).trans f7, (hb.frozen (by exact h0)).trans f8⟩
set_option maxRecDepth 20000 in
set_option maxHeartbeats 8000000 in
theorem ownMethod_any (m : MethD) (hm : m.upto 140737488351232) (A : Option Addr) (i j : Nat) (B : Option Addr) (k l : Nat) (w : World) :
    Calls Tryd.prog 25 #[methV m A i j B k l] w fun e w' => ∃ v, e = .returned v ∧ MethBare m v ∧ Below w.heap.size w w' := by
  obtain ⟨nm, ty, st, ab, pr, lo, code, hs⟩ := m
  have HK1 := Lib.hid (fun w => clone_any (bs nm) w (by rw [bs_size]; exact Nat.le_trans hm.1 (by decide)))
  have HK2 := Lib.hid (fun w => clone_any (bs ty) w (by rw [bs_size]; exact Nat.le_trans hm.2.1 (by decide)))
  have hld := laid8_at (w.alloc (.cells #[.string (bs nm), .string (bs ty), .bool st, .bool ab, .bool pr, .int .i64 lo, .slice A i j, .slice B k l] 36)) 36
  rw [show (w.alloc (.cells #[.string (bs nm), .string (bs ty), .bool st, .bool ab, .bool pr, .int .i64 lo, .slice A i j, .slice B k l] 36)).heap.size = w.heap.size + 1 by simp] at hld
  have HC0 := Lib.hid ((cells_at w #[.string (bs nm), .string (bs ty), .bool st, .bool ab, .bool pr, .int .i64 lo, .slice A i j, .slice B k l] 36).below (al1 _ (.cells #[.string ⟨#[]⟩, .string ⟨#[]⟩, .bool false, .bool false, .bool false, .int .i64 0, .slice none 0 0, .slice none 0 0] 36)))
  have HF0 := Lib.hid ((free8_at w #[.string (bs nm), .string (bs ty), .bool st, .bool ab, .bool pr, .int .i64 lo, .slice A i j, .slice B k l] 36).below (al1 _ (.cells #[.string ⟨#[]⟩, .string ⟨#[]⟩, .bool false, .bool false, .bool false, .int .i64 0, .slice none 0 0, .slice none 0 0] 36)))
  have HB2 := Lib.hid (bnext (al1 w (.cells #[.string (bs nm), .string (bs ty), .bool st, .bool ab, .bool pr, .int .i64 lo, .slice A i j, .slice B k l] 36)) (al1 _ (.cells #[.string ⟨#[]⟩, .string ⟨#[]⟩, .bool false, .bool false, .bool false, .int .i64 0, .slice none 0 0, .slice none 0 0] 36)))
  have HLd := Lib.hid hld
  clear hm hld
  unfold methV
  go_enter Tryd.func25, Tryd.ntmps25
  go_wp2_with fail
  first | go_region_held (fun w' => w'.cell? ⟨w.heap.size, 0, none⟩ = some (.string (bs nm)) ∧ w'.cell? ⟨w.heap.size, 1, none⟩ = some (.string (bs ty))) (first | exact ⟨HC0.out.2 0, HC0.out.2 1⟩ | exact ⟨q0, q1⟩ | exact ⟨t0, t1⟩ | exact ⟨by simp [go_sem, t0], by simp [go_sem, t1]⟩)
    (first
      | (go_at_call 28; (with_reducible refine (HK1.out _).mono ?_); rintro e w2 ⟨rfl, hb⟩
         have HB3 := Lib.hid (bnext HB2.out (behind_drew1 hb))
         have q0 := (HC0.out.below (behind_drew1 hb)).2 0
         have q1 := (HC0.out.below (behind_drew1 hb)).2 1
         have HL3 := Lib.hid (HLd.out.below (behind_drew1 hb))
         have HC3 := Lib.hid (HC0.out.below (behind_drew1 hb))
         have HF3 := Lib.hid (HF0.out.below (behind_drew1 hb))
         clear hb)
      | (go_at_call 28; (with_reducible refine (HK2.out _).mono ?_); rintro e w4 ⟨rfl, hb⟩
         have HB4 := Lib.hid (bnext HB3.out hb)
         have hz4 := hb.size
         obtain ⟨t0, t1, t2, t3, t4, t5, t6, t7⟩ := (HC3.out.below hb).get8
         have HL4 := Lib.hid (HL3.out.below hb)
         obtain ⟨s0, s1, s2, s3, s4, s5, s6, s7, s8⟩ := HF3.out.below hb
         clear hb)) | fail
  all_goals
    obtain ⟨g0, g1, g2, g3, g4, g5, g6, g7, g8, f1, f2, f3, f4, f5, f6, f7, f8⟩ := HL4.out
    go_wp2_with fail
    refine bodyPost_ret (v := .agg #[.string (bs nm), .string (bs ty), .bool st, .bool ab, .bool pr, .int .i64 lo, .slice none 0 0, .slice none 0 0]) ?_ rfl ⟨_, rfl, ⟨_, _, _, _, rfl⟩, ?_⟩
    · simp [results, Tryd.results25, go_sem, *]
    · have B := HB4.out
      repeat (first | with_reducible exact B | with_reducible refine bput_ ?_ (Nat.le_succ _) | with_reducible refine bput_ ?_ (Nat.le_refl _))
end Go.Proofs.YtkolpbjpgobkcaaDoor
