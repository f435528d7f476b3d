/- The reference's Supers. -/
import Derived.Test.YtkolpbjpgobkcaaGreatDoorWoN
namespace Go.Proofs.YtkolpbjpgobkcaaGreatDoor
open Go.ChangeShapes Go.WideShapes Go.ChangeAt Go.RowKit
set_option linter.unusedVariables false

set_option maxRecDepth 20000 in
set_option maxHeartbeats 4000000 in
theorem rsupers_any (l : List ClassD) (y : List UInt8) (s : List (List UInt8)) (hC : Chain l y s) :
    ∀ (A : Option Addr) (n c : Nat) (w : World) (R : ClassRow w A n c l) (hn : n ≤ 140737488351232) (hs : s.length ≤ 1000), Calls Tryz.prog 21 #[.slice A n c, .string (bs y)] w (Gives w s) := by
  induction hC with
  | @top y x h hs =>
    intro A n c w R hn _
    have he := emptyB_yes hs
    have HCo := Lib.hid (rclassOf_any l y A n c w R hn)
    have hx := Lib.hid (classD_some h)
    clear R h hs
    go_enter Tryz.func21, Tryz.ntmps21
    go_wp2_with (first
      | (go_at_call 14; (with_reducible refine HCo.out.mono ?_); rintro e w2 ⟨v2, rfl, hh, hb⟩
         rw [hx.out] at hh
         obtain ⟨A4, i4, j4, A5, i5, j5, A6, i6, j6, rfl, _⟩ := hh
         have HB2 := Lib.hid (hb.alloc hb.size (.cells #[.string (bs x.nm), .string (bs x.su), .slice A4 i4 j4, .bool x.face, .slice A5 i5 j5, .slice A6 i6 j6] 51))
         have HO2 := Lib.hid (own_lit2 w2 (.cells #[.string (bs x.nm), .string (bs x.su), .slice A4 i4 j4, .bool x.face, .slice A5 i5 j5, .slice A6 i6 j6] 51) w.heap.size y hb.size)
         have hz := HB2.out.size
         clear hb))
    go_ret
    exact ⟨_, rfl, HO2.out, HB2.out.alloc hz _⟩
  | @up y x t h hs k ih =>
    intro A n c w R hn hlen
    have he := emptyB_no hs
    have HCo := Lib.hid (rclassOf_any l y A n c w R hn)
    have HIh := Lib.hid (fun W R => ih A n c W R hn (by simp only [List.length_cons] at hlen; omega))
    have HR := Lib.hid R
    have hx := Lib.hid (classD_some h)
    simp only [List.length_cons] at hlen
    clear R h hs k ih
    go_enter Tryz.func21, Tryz.ntmps21
    go_wp2_with (first
      | (go_at_call 14; (with_reducible refine HCo.out.mono ?_); rintro e w2 ⟨v2, rfl, hh, hb⟩
         rw [hx.out] at hh
         obtain ⟨A4, i4, j4, A5, i5, j5, A6, i6, j6, rfl, _⟩ := hh
         have HB2 := Lib.hid (hb.alloc hb.size (.cells #[.string (bs x.nm), .string (bs x.su), .slice A4 i4 j4, .bool x.face, .slice A5 i5 j5, .slice A6 i6 j6] 51))
         have HO2 := Lib.hid (own_lit2 w2 (.cells #[.string (bs x.nm), .string (bs x.su), .slice A4 i4 j4, .bool x.face, .slice A5 i5 j5, .slice A6 i6 j6] 51) w.heap.size y hb.size)
         have HB3 := Lib.hid (HB2.out.alloc HB2.out.size (.cells #[.string (bs y)] 9))
         clear hb)
      | (go_at_call 21; (with_reducible refine (HIh.out _ (ClassRow.below HR.out HB3.out)).mono ?_); rintro e w4 ⟨v4, rfl, hv, hb⟩
         obtain ⟨M, d, rfl⟩ := hv.form
         have HM4 := Lib.hid hv.row
         have HN4 := Lib.hid hv.none_
         have HO4 := Lib.hid (HO2.out.below hb)
         have HB4 := Lib.hid (bnext HB3.out hb)
         clear hv hb)
      | (at_builtin; refine wpList_strs rfl _ _ rfl w.heap.size (.slice (some ⟨w2.heap.size + 1, 0, none⟩) 1 1) [y] rfl HO4.out M t.length d t rfl HM4.out HN4.out (by simp; omega) HB4.out.size ?_
         intro v5 w5 hv5 hb5 _ _
         have HO5 := Lib.hid hv5
         have HB5 := Lib.hid (HB4.out.trans hb5)
         clear hv5 hb5))
    go_ret
    exact ⟨_, rfl, HO5.out, HB5.out⟩
end Go.Proofs.YtkolpbjpgobkcaaGreatDoor
