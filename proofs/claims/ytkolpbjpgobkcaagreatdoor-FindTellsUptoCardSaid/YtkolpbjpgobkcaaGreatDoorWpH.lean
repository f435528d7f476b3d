/- Package world: Supers. -/
import Derived.Test.YtkolpbjpgobkcaaGreatDoorWpG
namespace Go.Proofs.YtkolpbjpgobkcaaGreatDoor
open Go.ChangeShapes Go.WideShapes Go.ChangeAt Go.RowKit Go.Maps
set_option linter.unusedVariables false
attribute [local go_sem] eqGuard_errV_nil eqGuard_errV_iface eql_errV_nil neq_errV_nil eql_errV_form

/-- A chain, place by place: it ends at Object, and goes on by the superclass elsewhere. -/
theorem Chain.at_ {l : List ClassD} (hJ : Joined l) {y : List UInt8} {s : List (List UInt8)} (h : Chain l y s) : ∀ (k : Nat) (hk : k < s.length), ∃ c, classOf l s[k] = some c ∧ ((s[k] = objB ∧ k + 1 = s.length) ∨ (s[k] ≠ objB ∧ knownB l c.su = true ∧ s[k + 1]? = some c.su)) := by
  induction h with
  | @top n c h hs =>
    intro k hk
    obtain rfl : k = 0 := by simpa using hk
    refine ⟨c, h, .inl ⟨?_, rfl⟩⟩
    rcases classOf_in h with ⟨e, _⟩ | ⟨_, rfl⟩ | ⟨hm, _⟩
    · exact e
    · cases hs
    · exact absurd hs (link_zero (hJ.link hm)).1
  | @up n c t h hs k1 ih =>
    intro k hk
    cases k with
    | zero =>
      refine ⟨c, h, .inr ⟨fun e => ?_, hJ.known (su_up h hs), ?_⟩⟩
      · have e : n = objB := e
        rw [e, classOf_obj] at h
        have := (Option.some.inj h).symm
        rw [this] at hs
        exact hs rfl
      · obtain ⟨t', rfl⟩ := k1.pos
        rfl
    | succ k =>
      obtain ⟨c', h1, h2⟩ := ih k (by simpa using hk)
      refine ⟨c', by simpa using h1, ?_⟩
      rcases h2 with ⟨h2, h3⟩ | ⟨h2, h3, h4⟩
      · exact .inl ⟨by simpa using h2, by simp [h3]⟩
      · exact .inr ⟨by simpa using h2, h3, by simpa using h4⟩
theorem grown_set (w : World) (g j : Nat) (v : Value) : w.grownBy (w.setCell ⟨g, j, none⟩ v) (some g) := ⟨rfl, rfl, rfl, by simp, fun k _ hk => Below.heap_setCell w ⟨g, j, none⟩ v k (fun e => hk (by rw [e]))⟩
/-- A block of six cells that may be written. -/
def Box6 (w : World) (g : Nat) (v0 v1 v2 v3 v4 v5 : Value) : Prop :=
  g < w.heap.size ∧ w.cell? ⟨g, 0, none⟩ = some v0 ∧ w.cell? ⟨g, 1, none⟩ = some v1 ∧ w.cell? ⟨g, 2, none⟩ = some v2 ∧ w.cell? ⟨g, 3, none⟩ = some v3 ∧ w.cell? ⟨g, 4, none⟩ = some v4 ∧ w.cell? ⟨g, 5, none⟩ = some v5 ∧
  w.frozen? ⟨g, 0, none⟩ = false ∧ w.frozen? ⟨g, 1, none⟩ = false ∧ w.frozen? ⟨g, 2, none⟩ = false ∧ w.frozen? ⟨g, 3, none⟩ = false ∧ w.frozen? ⟨g, 4, none⟩ = false ∧ w.frozen? ⟨g, 5, none⟩ = false
section
variable {w w' : World} {g : Nat} {v0 v1 v2 v3 v4 v5 : Value}
theorem Box6.grown (h : Box6 w g v0 v1 v2 v3 v4 v5) {row : Option Nat} (hg : w.grownBy w' row) (hr : some g ≠ row) : Box6 w' g v0 v1 v2 v3 v4 v5 := by
  obtain ⟨h0, c0, c1, c2, c3, c4, c5, f0, f1, f2, f3, f4, f5⟩ := h
  refine ⟨Nat.lt_of_lt_of_le h0 hg.size, ?_, ?_, ?_, ?_, ?_, ?_, ?_, ?_, ?_, ?_, ?_, ?_⟩
  all_goals first
    | (rw [hg.cell_far _ (by exact h0) (by exact hr)]; assumption)
    | (rw [hg.frozen_far _ (by exact h0) (by exact hr)]; assumption)
theorem box6_at (w : World) (a0 a1 a2 a3 a4 a5 : Value) (t : TypeId) : Box6 (w.alloc (.cells #[a0, a1, a2, a3, a4, a5] t)) w.heap.size a0 a1 a2 a3 a4 a5 :=
  ⟨by simp, World.cell?_alloc_mark .., World.cell?_alloc_mark .., World.cell?_alloc_mark .., World.cell?_alloc_mark .., World.cell?_alloc_mark .., World.cell?_alloc_mark .., frozen_at .., frozen_at .., frozen_at .., frozen_at .., frozen_at .., frozen_at ..⟩
theorem Box6.set (h : Box6 w g v0 v1 v2 v3 v4 v5) (a0 a1 a2 a3 a4 a5 : Value) :
    Box6 ((((((w.setCell ⟨g, 0, none⟩ a0).setCell ⟨g, 1, none⟩ a1).setCell ⟨g, 2, none⟩ a2).setCell ⟨g, 3, none⟩ a3).setCell ⟨g, 4, none⟩ a4).setCell ⟨g, 5, none⟩ a5) g a0 a1 a2 a3 a4 a5 := by
  obtain ⟨h0, c0, c1, c2, c3, c4, c5, f0, f1, f2, f3, f4, f5⟩ := h
  refine ⟨by simpa using h0, ?_, ?_, ?_, ?_, ?_, ?_, ?_, ?_, ?_, ?_, ?_, ?_⟩ <;> simp [go_sem, *]
theorem set6_grown (w : World) (g : Nat) (a0 a1 a2 a3 a4 a5 : Value) : w.grownBy ((((((w.setCell ⟨g, 0, none⟩ a0).setCell ⟨g, 1, none⟩ a1).setCell ⟨g, 2, none⟩ a2).setCell ⟨g, 3, none⟩ a3).setCell ⟨g, 4, none⟩ a4).setCell ⟨g, 5, none⟩ a5) (some g) :=
  (((((grown_set _ _ _ _).trans (grown_set _ _ _ _)).trans (grown_set _ _ _ _)).trans (grown_set _ _ _ _)).trans (grown_set _ _ _ _)).trans (grown_set _ _ _ _)
end
theorem own_lit3 (w : World) (o : Obj) (base : Nat) (x : List UInt8) (hb : base ≤ w.heap.size + 1) : Own ((w.alloc o).alloc (.cells #[.string (bs x)] 9)) base (.slice (some ⟨w.heap.size + 1, 0, none⟩) 1 1) [x] := by
  have := own_lit (w.alloc o) base x (by simp; omega)
  rwa [show (w.alloc o).heap.size = w.heap.size + 1 by simp] at this
theorem box_of {l : List ClassD} {s : List (List UInt8)} {w : World} {g k : Nat} {z : List UInt8} {a b c : Value} (h2 : k < s.length) (h3 : s[k] = z) (h : Box6 w g (.string (bs z)) (.string (bs (classD l z).su)) a (.bool (classD l z).face) b c) :
    Box6 w g (.string (bs s[k])) (.string (bs (classD l s[k]).su)) a (.bool (classD l s[k]).face) b c := by
  subst h3
  exact h
/-- The chain of a name that is there. -/
theorem known_nm {l : List ClassD} {y : List UInt8} (h : knownB l y = true) : (classD l y).nm = y := by
  obtain ⟨c, hc⟩ := known_some h
  rw [classD_some hc]
  exact classOf_nm hc

set_option maxRecDepth 20000 in
set_option maxHeartbeats 8000000 in
theorem world_supers : WorldSupers := by
  intro l q y A n c w hq T R hA hu hw hn hy
  have hF := find_any l q y A n c w w (Below.refl _ _) hq T R hu hw hn hy
  have HU := Lib.hid hu
  clear hq T R hA hu hw hy
  by_cases h0 : namedQ l q y = 0
  · have HF := Lib.hid (hF.mono fun _ _ h => find_good h h0)
    clear hF
    have H0 := Lib.hid h0
    clear h0
    go_enter Tryz.func15, Tryz.ntmps15
    go_wp2_with (first
      | (go_at_call 30; (with_reducible refine HF.out.mono ?_); rintro e w1 ⟨b, v, rfl, hval, hk, hbs, ⟨D, hown, hsay⟩, hv, hb⟩
         obtain ⟨A1, i1, j1, A2, i2, j2, A3, i3, j3, rfl, _⟩ := hv
         have HVal := Lib.hid hval
         have HK := Lib.hid hk
         have HSay := Lib.hid hsay
         have HO := Lib.hid hown
         have HB1 := Lib.hid hb
         have hyn := known_nm hk
         have hbx := (box6_at w1 (.string (bs (classD l y).nm)) (.string (bs (classD l y).su)) (.slice A1 i1 j1) (.bool (classD l y).face) (.slice A2 i2 j2) (.slice A3 i3 j3) 51)
         have HBx := Lib.hid (hbx.grown (World.grownBy_alloc _ (.cells #[.string (bs y)] 9) none) (by simp))
         have HBb := Lib.hid ((al1 w1 (.cells #[.string (bs (classD l y).nm), .string (bs (classD l y).su), .slice A1 i1 j1, .bool (classD l y).face, .slice A2 i2 j2, .slice A3 i3 j3] 51)).alloc (by simp) (.cells #[.string (bs y)] 9))
         have HO1 := Lib.hid (own_lit3 w1 (.cells #[.string (bs (classD l y).nm), .string (bs (classD l y).su), .slice A1 i1 j1, .bool (classD l y).face, .slice A2 i2 j2, .slice A3 i3 j3] 51) (w1.heap.size + 1) y (Nat.le_refl _))
         have hz1 := hb.size
         rw [hyn] at HBx HBb HO1 ⊢
         clear hb hown hsay hbs hval hk hbx hyn))
    obtain ⟨s, hch, hsl⟩ := chain_is HVal.out HK.out
    have hat := fun k hk => hch.at_ HVal.out.1 k hk
    obtain ⟨tl, htl⟩ := hch.pos
    have hpos : 0 < s.length := by rw [htl]; simp
    have h00 : s[0] = y := by simp [htl]
    have ht1 : s.take 1 = [y] := by rw [htl]; rfl
    have HCh := Lib.hid hch
    have HAt := Lib.hid hat
    have HKs := Lib.hid (show ∀ x ∈ s, knownB l x = true from fun x hx => by
      rcases hch.mem x hx with rfl | h
      · exact HK.out
      · exact HVal.out.1.upKnown h)
    rw [← ht1] at HO1
    clear hch hat htl ht1
    go_loopw [9] (fun v wr => ∃ (k : Nat) (hk : k < s.length) (A' : Option Addr) (c' : Nat) (A1 : Option Addr) (i1 j1 : Nat) (A2 : Option Addr) (i2 j2 : Nat) (A3 : Option Addr) (i3 j3 : Nat), v = .slice A' (k + 1) c' ∧ Hid (Own wr (w1.heap.size + 1) (.slice A' (k + 1) c') (s.take (k + 1))) ∧
      Hid (Box6 wr w1.heap.size (.string (bs s[k])) (.string (bs (classD l s[k]).su)) (.slice A1 i1 j1) (.bool (classD l s[k]).face) (.slice A2 i2 j2) (.slice A3 i3 j3)) ∧ Hid (Below w1.heap.size w1 wr) ∧ Hid (w1.heap.size + 1 ≤ wr.heap.size)) (fun v _ => s.length - lenV v)
    case atStart => exact ⟨0, hpos, _, _, A1, i1, j1, A2, i2, j2, A3, i3, j3, rfl, HO1, by rw [h00]; exact HBx, HBb, Lib.hid (by simp)⟩
    case round =>
      obtain ⟨k, hk, A', c', B1, m1, n1, B2, m2, n2, B3, m3, n3, rfl, HOr, HXr, HBr, HZr⟩ := hrel
      obtain ⟨c, hc, hor⟩ := HAt.out k hk
      have HKk := Lib.hid (HKs.out _ (List.getElem_mem hk))
      rw [classD_some hc] at HXr
      have HHt := Lib.hid (show ∀ z, s[k + 1]? = some z → ∃ h2 : k + 1 < s.length, s[k + 1] = z ∧ s.take (k + 1 + 1) = s.take (k + 1) ++ [z] from fun z hz => by
        obtain ⟨h2, h3⟩ := List.getElem?_eq_some_iff.1 hz
        exact ⟨h2, h3, by rw [List.take_succ_eq_append_getElem h2, h3]⟩)
      obtain ⟨hgl, c0, c1, c2, c3, c4, c5, f0, f1, f2, f3, f4, f5⟩ := HXr.out
      rcases hor with ⟨ho, hend⟩ | ⟨hno, hks, hnx⟩
      · rw [ho] at c0
        have e1 : ((bs objB).toList == [79, 98, 106, 101, 99, 116]) = true := lst_yes rfl
        have hz1' := HZr.out
        have hos := HOr.out
        rw [hend, List.take_length] at hos
        have HCp := Lib.hid (copied_any s _ _ wr hos (by omega) (fun x hx => known_size HU.out (HKs.out x hx)) (by omega))
        rw [hend]
        clear hos
        go_wp2_with (first
          | (go_at_call 31; (with_reducible refine HCp.out.mono ?_); rintro e w6 ⟨rfl, ho, hb⟩
             have HO6 := Lib.hid ho
             have HB6 := Lib.hid (bnext HB1.out (HBr.out.trans (hb.mono (by omega))))
             clear ho hb))
        go_ret2
        exact ⟨_, s, by rw [H0.out]; rfl, World.ownsRow.mono HO6.out (by omega), fun _ => HCh.out, fun h => absurd H0.out h, by omega, HB6.out⟩
      · have e1 : ((bs s[k]).toList == [79, 98, 106, 101, 99, 116]) = false := lst_no hno
        obtain ⟨h2, h3, h4⟩ := HHt.out _ hnx
        obtain ⟨_, v, hat, hhv⟩ := HSay.out.2 c.su
        obtain ⟨C1, a1, b1, C2, a2, b2, C3, a3, b3, rfl, _⟩ := hhv
        rw [known_nm hks] at hat
        have HY := Lib.hid (known_short HU.out hks)
        have HAz := Lib.hid hat
        have HOd := Lib.hid (owns_below HO.out HBr.out)
        have hal : ∀ g, (Value.slice A' (k + 1) c').ownBlock = some g → w1.heap.size + 1 ≤ g := fun g hg => (World.ownsRow.lt HOr.out g hg).1
        have hz1' := HZr.out
        clear hat hks hno hnx
        generalize c.su = z at *
        have HXs := Lib.hid (HXr.out.set (.string (bs z)) (.string (bs (classD l z).su)) (.slice C1 a1 b1) (.bool (classD l z).face) (.slice C2 a2 b2) (.slice C3 a3 b3))
        have hgs := set6_grown wr w1.heap.size (.string (bs z)) (.string (bs (classD l z).su)) (.slice C1 a1 b1) (.bool (classD l z).face) (.slice C2 a2 b2) (.slice C3 a3 b3)
        have HOs := Lib.hid (World.ownsRow.alloc (World.ownsRow.kept HOr.out hgs (.inr (fun e => by have := hal _ e; omega))) (.cells #[.string (bs z)] 9))
        have HBs := Lib.hid ((HBr.out.grown hgs HBr.out.size (fun i hi => by cases hi; exact Nat.le_refl _)).alloc (Nat.le_trans HBr.out.size hgs.size) (.cells #[.string (bs z)] 9))
        have hls := str_lit ((((((wr.setCell ⟨w1.heap.size, 0, none⟩ (.string (bs z))).setCell ⟨w1.heap.size, 1, none⟩ (.string (bs (classD l z).su))).setCell ⟨w1.heap.size, 2, none⟩ (.slice C1 a1 b1)).setCell ⟨w1.heap.size, 3, none⟩ (.bool (classD l z).face)).setCell ⟨w1.heap.size, 4, none⟩ (.slice C2 a2 b2)).setCell ⟨w1.heap.size, 5, none⟩ (.slice C3 a3 b3)) z 9 (0, 0)
        rw [show ((((((wr.setCell ⟨w1.heap.size, 0, none⟩ (.string (bs z))).setCell ⟨w1.heap.size, 1, none⟩ (.string (bs (classD l z).su))).setCell ⟨w1.heap.size, 2, none⟩ (.slice C1 a1 b1)).setCell ⟨w1.heap.size, 3, none⟩ (.bool (classD l z).face)).setCell ⟨w1.heap.size, 4, none⟩ (.slice C2 a2 b2)).setCell ⟨w1.heap.size, 5, none⟩ (.slice C3 a3 b3)).heap.size = wr.heap.size by simp] at hls
        have HLs := Lib.hid hls
        have HXa := Lib.hid (HXs.out.grown (World.grownBy_alloc _ (.cells #[.string (bs z)] 9) none) (by simp))
        clear hls hgs
        go_wp2_with (first
          | (at_lookup; refine wpList_lookup_v _ rfl _ _ rfl b _ D rfl HOd.out z rfl HY.out _ HAz.out ?_)
          | (at_builtin
             refine (wpList_strs rfl _ _ rfl (w1.heap.size + 1) (.slice A' (k + 1) c') (s.take (k + 1)) rfl HOs.out (some ⟨wr.heap.size, 0, none⟩) 1 1 [z] rfl HLs.out (fun h => nomatch h) (by rw [List.length_take]; omega) (by simp; omega) ?_)
             intro v5 w5 hv5 hb5 hg5 _
             obtain ⟨A5, c5', rfl⟩ := hv5.form
             have HXb := Lib.hid (HXa.out.grown hg5 (fun e => by have := hal _ e.symm; omega))
             have HBt := Lib.hid (HBs.out.trans (hb5.mono (by omega)))
             have hz5 := hb5.size
             have HO5 := Lib.hid hv5
             clear hv5 hb5 hg5))
        have hmin : min (k + 1) s.length = k + 1 := by omega
        have HO6 := Lib.hid (show Own w5 (w1.heap.size + 1) (.slice A5 (k + 1 + 1) c5') (s.take (k + 1 + 1)) from by
          have h := HO5.out
          rw [h4]
          rwa [show (s.take (k + 1) ++ [z]).length = k + 1 + 1 by rw [List.length_append, List.length_take, hmin]; rfl] at h)
        have HX6 := Lib.hid (box_of h2 h3 HXb.out)
        have HZ5 := Lib.hid (show w1.heap.size + 1 ≤ w5.heap.size from HXb.out.1)
        clear hal hz5 HXa HXs HOs HBs HLs HOd HAz HY HO5 HXb
        go_roundw
        case rel => exact ⟨k + 1, h2, A5, c5', C1, a1, b1, C2, a2, b2, C3, a3, b3, by rw [hmin], HO6, HX6, HBt, HZ5⟩
        case measure =>
          clear HO6 HX6 HBt HZ5
          have e1 : lenV (.slice A5 (min (k + 1) s.length + 1) c5') = min (k + 1) s.length + 1 := rfl
          have e2 : lenV (.slice A' (k + 1) c') = k + 1 := rfl
          rw [e1, e2]
          clear HCh HAt HKs HHt HF HSay HO HB1 HBx HBb HO1 HVal HK HU
          omega
  · have HF := Lib.hid (hF.mono fun _ _ h => find_bad h h0)
    have hne : (namedQ l q y != 0) = true := by rw [bne_iff_ne]; exact h0
    have H0 := Lib.hid h0
    clear hF h0
    unfold zeroV at HF
    go_enter Tryz.func15, Tryz.ntmps15
    go_wp2_with (first
      | (go_at_call 30; (with_reducible refine HF.out.mono ?_); rintro e w1 ⟨rfl, hb⟩
         have HB1 := Lib.hid (hb.alloc hb.size (.cells #[.string ⟨#[]⟩, .string ⟨#[]⟩, .slice none 0 0, .bool false, .slice none 0 0, .slice none 0 0] 51))
         clear hb))
    go_ret2
    exact lists_fault _ _ _ H0.out HB1.out
end Go.Proofs.YtkolpbjpgobkcaaGreatDoor
