/- Package find says what it must. -/
import Derived.Test.YtkolpbjpgobkcaaDoorFiP2
import Derived.Test.YtkolpbjpgobkcaaDoorWpH
namespace Go.Proofs.YtkolpbjpgobkcaaDoor
open Go.ChangeShapes Go.WideShapes Go.ChangeAt Go.RowKit
set_option linter.unusedVariables false
attribute [local go_sem] eqGuard_errV_nil eqGuard_errV_iface eql_errV_nil neq_errV_nil eql_errV_form field_fields

/-- A right class has few members, none too long. -/
theorem few_meths {l : List ClassD} (hJ : Joined l) (hu : ∀ x ∈ l, x.upto 140737488351232) (x : List UInt8) : (classD l x).meths.length ≤ 1000000000 ∧ ∀ m ∈ (classD l x).meths, m.upto 140737488351232 := by
  unfold classD
  cases h : classOf l x with
  | none => exact ⟨by decide, fun m hm => (by cases hm)⟩
  | some c =>
    rcases classOf_in h with ⟨_, rfl⟩ | ⟨_, rfl⟩ | ⟨hm, _⟩
    · exact ⟨by decide, fun m hm => (by cases hm)⟩
    · exact ⟨by decide, fun m hm => (by cases hm)⟩
    · obtain ⟨_, _, h3, _⟩ := classF_zero.1 (hJ.cls hm)
      exact ⟨by show c.meths.length ≤ 1000000000; omega, (hu c hm).2.2.2.2.1⟩
theorem few_fields {l : List ClassD} (hJ : Joined l) (hu : ∀ x ∈ l, x.upto 140737488351232) (x : List UInt8) : (classD l x).fields.length ≤ 1000000000 ∧ ∀ m ∈ (classD l x).fields, m.upto 140737488351232 := by
  unfold classD
  cases h : classOf l x with
  | none => exact ⟨by decide, fun m hm => (by cases hm)⟩
  | some c =>
    rcases classOf_in h with ⟨_, rfl⟩ | ⟨_, rfl⟩ | ⟨hm, _⟩
    · exact ⟨by decide, fun m hm => (by cases hm)⟩
    · exact ⟨by decide, fun m hm => (by cases hm)⟩
    · obtain ⟨_, _, h3, _⟩ := classF_zero.1 (hJ.cls hm)
      exact ⟨by show c.fields.length ≤ 1000000000; omega, (hu c hm).2.2.2.1.1⟩

set_option maxRecDepth 20000 in
set_option maxHeartbeats 8000000 in
theorem inFaces_any (l : List ClassD) (hq : WorldIs l 0) (y z u : List UInt8) (hk : knownB l y = true) (s : List (List UInt8)) (hC : Chain l y s) (h0 : methFirst l z u s = none) (hy : y.length ≤ 140737488351232) (e0 : List (List UInt8)) (hS : Sorted l y e0) (b1 b2 : Nat)
    (A : Option Addr) (n c : Nat) (w : World) (T : Tab w) (R : ClassRow w A n c l) (hA : A = none → n = 0 ∧ c = 0) (hu : ∀ x ∈ l, x.upto 140737488351232) (hw : ∀ x ∈ l, x.wf) (hn : n ≤ 140737488351232) (h1 : w.cell? ⟨b1, 0, none⟩ = some (.string (bs z))) (h2 : w.cell? ⟨b2, 0, none⟩ = some (.string (bs u))) (hb1 : b1 < w.heap.size) (hb2 : b2 < w.heap.size) :
    Calls Tryd.prog 14 #[.slice A n c, .string (bs y), .func (.func 12) #[] #[.pointer (some ⟨b1, 0, none⟩), .pointer (some ⟨b2, 0, none⟩)]] w (FirstSays w (foundFirst l z u s e0)) := by
  have hV := worldIs_zero hq
  rw [faces_is hV.1 hC hS z u h0]
  have ha0 := al1 w (.cells #[.func (.func 12) #[] #[.pointer (some ⟨b1, 0, none⟩), .pointer (some ⟨b2, 0, none⟩)]] 49)
  have ha1 := bnext ha0 (al1 _ (.cells #[.string ⟨#[]⟩, .string ⟨#[]⟩, .bool false, .bool false, .bool false, .int .i64 0, .slice none 0 0, .slice none 0 0] 36))
  have hld := laid8_at (w.alloc (.cells #[.func (.func 12) #[] #[.pointer (some ⟨b1, 0, none⟩), .pointer (some ⟨b2, 0, none⟩)]] 49)) 36
  rw [show (w.alloc (.cells #[.func (.func 12) #[] #[.pointer (some ⟨b1, 0, none⟩), .pointer (some ⟨b2, 0, none⟩)]] 49)).heap.size = w.heap.size + 1 by simp] at hld
  have HLd := Lib.hid hld
  have HCf := Lib.hid ((cells_at w #[.func (.func 12) #[] #[.pointer (some ⟨b1, 0, none⟩), .pointer (some ⟨b2, 0, none⟩)]] 49).below (al1 _ (.cells #[.string ⟨#[]⟩, .string ⟨#[]⟩, .bool false, .bool false, .bool false, .int .i64 0, .slice none 0 0, .slice none 0 0] 36)))
  have HA := Lib.hid ((world_alls l 0 y A n c _ hq (T.below ha1) (ClassRow.below R ha1) hA hu hw hn hy).mono fun _ _ h => lists_ok (namedQ_zero.2 ⟨rfl, hk⟩) h)
  have HB1 := Lib.hid ha1
  have HSo := Lib.hid hS
  have HW := Lib.hid (fun (w' : World) (hb : Below w.heap.size w w') (hcf : Cells w' w.heap.size #[.func (.func 12) #[] #[.pointer (some ⟨b1, 0, none⟩), .pointer (some ⟨b2, 0, none⟩)]]) (M : Option Addr) (d : Nat) (S : StrRow w' M e0.length d e0) (he : e0.length ≤ 1000) =>
    firstW_any l hV.1 (fun m => (m.nm == z && m.ty == u) && !m.ab) w.heap.size e0 A n c M d w' (ClassRow.below R hb) S hn he (fun x _ => few_meths hV.1 hu x)
      (fun W hB => whole_any z u b1 b2 w.heap.size W (((hb.trans (hB.mono hb.size)).cell (p := ⟨b1, 0, none⟩) hb1).trans h1) (((hb.trans (hB.mono hb.size)).cell (p := ⟨b2, 0, none⟩) hb2).trans h2) ((hcf.below hB).2 0) (Nat.lt_of_lt_of_le hb1 (hb.trans (hB.mono hb.size)).size) (Nat.lt_of_lt_of_le hb2 (hb.trans (hB.mono hb.size)).size) (hcf.below hB).1))
  have HQ := Lib.hid (fun (w' : World) (hb : Below w.heap.size w w') (M : Option Addr) (d : Nat) (S : StrRow w' M e0.length d e0) (he : e0.length ≤ 1000) =>
    firstA_any l hV.1 (fun m => m.nm == z && m.ty == u) b1 b2 e0 A n c M d w' (ClassRow.below R hb) S hn he (fun x _ => few_meths hV.1 hu x)
      (fun W hB => asked_any z u b1 b2 W (((hb.trans (hB.mono hb.size)).cell (p := ⟨b1, 0, none⟩) hb1).trans h1) (((hb.trans (hB.mono hb.size)).cell (p := ⟨b2, 0, none⟩) hb2).trans h2) (Nat.lt_of_lt_of_le hb1 (hb.trans (hB.mono hb.size)).size) (Nat.lt_of_lt_of_le hb2 (hb.trans (hB.mono hb.size)).size)))
  clear ha0 ha1 hld T R hA hu hw hq hk hC h0 h1 h2 hb1 hb2 hV hS
  generalize firstM l (fun m => (m.nm == z && m.ty == u) && !m.ab) e0 = o1 at *
  generalize firstM l (fun m => m.nm == z && m.ty == u) e0 = o2 at *
  cases o1 with
  | some r =>
    obtain ⟨x, m⟩ := r
    clear HQ
    go_enter Tryd.func14, Tryd.ntmps14
    go_wp2_with (first
      | (go_at_call 7; (with_reducible refine HA.out.mono ?_); rintro e w2 ⟨M, s2, d, rfl, ho, hs2, hl2, hb⟩
         obtain rfl : s2 = e0 := hs2.one HSo.out
         have HFi := Lib.hid (HW.out w2 (bnext HB1.out hb) (HCf.out.below hb) M d ho.row (by omega))
         have HB2 := Lib.hid (bnext HB1.out hb)
         have HL2 := Lib.hid (HLd.out.below hb)
         have HC2 := Lib.hid (HCf.out.below hb)
         have HS2 := Lib.hid ho.row
         clear ho hs2 hb)
      | (go_at_call 13; (with_reducible refine HFi.out.mono ?_); rintro e w3 ⟨v3, rfl, ⟨E1, r1, E2, r2, rfl⟩, hb⟩
         obtain ⟨g0, g1, g2, g3, g4, g5, g6, g7, g8, f1, f2, f3, f4, f5, f6, f7, f8⟩ := HL2.out.below hb
         have HB3 := Lib.hid (bnext HB2.out hb)
         clear hb))
    go_region
    go_wp2_with fail
    refine bodyPost_ret (v := .tuple #[.string (bs x), .agg #[.string (bs m.nm), .string (bs m.ty), .bool m.st, .bool m.ab, .bool m.pr, .int .i64 m.lo, .slice E1 0 r1, .slice E2 0 r2], .nilIface]) ?_ rfl ⟨_, rfl, ⟨_, _, _, _, rfl⟩, ?_⟩
    · simp [results, Tryd.results14, go_sem, *]
    · have B := HB3.out
      have hzb := B.size
      repeat (first | with_reducible exact B | with_reducible refine Below.drew ?_ | with_reducible refine bput_ ?_ (Nat.le_succ _) | with_reducible refine bal_ ?_ (by simp; omega))
  | none =>
    cases o2 with
    | some r =>
      obtain ⟨x, m⟩ := r
      go_enter Tryd.func14, Tryd.ntmps14
      go_wp2_with (first
      | (go_at_call 7; (with_reducible refine HA.out.mono ?_); rintro e w2 ⟨M, s2, d, rfl, ho, hs2, hl2, hb⟩
         obtain rfl : s2 = e0 := hs2.one HSo.out
         have HFi := Lib.hid (HW.out w2 (bnext HB1.out hb) (HCf.out.below hb) M d ho.row (by omega))
         have HB2 := Lib.hid (bnext HB1.out hb)
         have HL2 := Lib.hid (HLd.out.below hb)
         have HC2 := Lib.hid (HCf.out.below hb)
         have HS2 := Lib.hid ho.row
         clear ho hs2 hb)
      | (go_at_call 13; (with_reducible refine HFi.out.mono ?_); rintro e w3 ⟨v3, rfl, ⟨E1, r1, E2, r2, rfl⟩, hb⟩
         have HB3 := Lib.hid (bnext HB2.out hb)
         have HL3 := Lib.hid (HL2.out.below hb)
         have HC3 := Lib.hid (HC2.out.below hb)
         have hc3 : w3.cell? ⟨w.heap.size, 0, none⟩ = some (.func (.func 12) #[] #[.pointer (some ⟨b1, 0, none⟩), .pointer (some ⟨b2, 0, none⟩)]) := HC3.out.2 0
         have hz3 := HC3.out.1
         have HFj := Lib.hid (fun o => HQ.out (w3.alloc o) (bnext HB3.out (al1 w3 o)) M d (StrRow.below HS2.out (bnext hb (al1 w3 o))) (by omega))
         clear hb)
      | (go_at_call 13; (with_reducible refine (HFj.out _).mono ?_); rintro e w4 ⟨v4, rfl, ⟨E3, r3, E4, r4, rfl⟩, hb⟩
         have HB4 := Lib.hid (bnext (bnext HB3.out (al1 _ _)) hb)
         obtain ⟨g0, g1, g2, g3, g4, g5, g6, g7, g8, f1, f2, f3, f4, f5, f6, f7, f8⟩ := (HL3.out.below (al1 _ _)).below hb
         clear hb))
      refine bodyPost_ret (v := .tuple #[.string (bs x), .agg #[.string (bs m.nm), .string (bs m.ty), .bool m.st, .bool m.ab, .bool m.pr, .int .i64 m.lo, .slice E3 0 r3, .slice E4 0 r4], .nilIface]) ?_ rfl ⟨_, rfl, ⟨_, _, _, _, rfl⟩, ?_⟩
      · simp [results, Tryd.results14, go_sem, *]
        try (first | rfl | exact ⟨rfl, rfl, rfl, rfl, rfl, rfl, rfl⟩)
      · have B := HB4.out
        have hzb := B.size
        repeat (first | with_reducible exact B | with_reducible refine Below.drew ?_ | with_reducible refine bput_ ?_ (Nat.le_succ _) | with_reducible refine bal_ ?_ (by simp; omega))
    | none =>
      go_enter Tryd.func14, Tryd.ntmps14
      go_wp2_with (first
      | (go_at_call 7; (with_reducible refine HA.out.mono ?_); rintro e w2 ⟨M, s2, d, rfl, ho, hs2, hl2, hb⟩
         obtain rfl : s2 = e0 := hs2.one HSo.out
         have HFi := Lib.hid (HW.out w2 (bnext HB1.out hb) (HCf.out.below hb) M d ho.row (by omega))
         have HB2 := Lib.hid (bnext HB1.out hb)
         have HL2 := Lib.hid (HLd.out.below hb)
         have HC2 := Lib.hid (HCf.out.below hb)
         have HS2 := Lib.hid ho.row
         clear ho hs2 hb)
      | (go_at_call 13; (with_reducible refine HFi.out.mono ?_); rintro e w3 ⟨v3, rfl, ⟨E1, r1, E2, r2, rfl⟩, hb⟩
         have HB3 := Lib.hid (bnext HB2.out hb)
         have HL3 := Lib.hid (HL2.out.below hb)
         have HC3 := Lib.hid (HC2.out.below hb)
         have hc3 : w3.cell? ⟨w.heap.size, 0, none⟩ = some (.func (.func 12) #[] #[.pointer (some ⟨b1, 0, none⟩), .pointer (some ⟨b2, 0, none⟩)]) := HC3.out.2 0
         have hz3 := HC3.out.1
         have HFj := Lib.hid (fun o => HQ.out (w3.alloc o) (bnext HB3.out (al1 w3 o)) M d (StrRow.below HS2.out (bnext hb (al1 w3 o))) (by omega))
         clear hb)
      | (go_at_call 13; (with_reducible refine (HFj.out _).mono ?_); rintro e w4 ⟨v4, rfl, ⟨E3, r3, E4, r4, rfl⟩, hb⟩
         have HB4 := Lib.hid (bnext (bnext HB3.out (al1 _ _)) hb)
         obtain ⟨g0, g1, g2, g3, g4, g5, g6, g7, g8, f1, f2, f3, f4, f5, f6, f7, f8⟩ := (HL3.out.below (al1 _ _)).below hb
         clear hb))
      refine bodyPost_ret (v := .tuple #[.string ⟨#[]⟩, .agg #[.string ⟨#[]⟩, .string ⟨#[]⟩, .bool false, .bool false, .bool false, .int .i64 0, .slice E3 0 r3, .slice E4 0 r4], errV 3]) ?_ rfl ⟨_, rfl, ⟨_, _, _, _, rfl⟩, ?_⟩
      · simp [results, Tryd.results14, go_sem, *]
        try (first | rfl | exact ⟨rfl, rfl, rfl, rfl, rfl, rfl, rfl⟩)
      · have B := HB4.out
        have hzb := B.size
        repeat (first | with_reducible exact B | with_reducible refine Below.drew ?_ | with_reducible refine bput_ ?_ (Nat.le_succ _) | with_reducible refine bal_ ?_ (by simp; omega))

set_option maxRecDepth 20000 in
set_option maxHeartbeats 8000000 in
theorem find_meths : FindMeths := by
  intro l q y z u o A n c w hq ho T R hA hu hw hn hy hz hz'
  have ha0 := al1 w (.cells #[.string (bs z)] 9)
  have ha1 := bnext ha0 (al1 (w.alloc (.cells #[.string (bs z)] 9)) (.cells #[.string (bs u)] 9))
  have ha2 := bnext ha1 (al1 ((w.alloc (.cells #[.string (bs z)] 9)).alloc (.cells #[.string (bs u)] 9)) (.cells #[.string ⟨#[]⟩, .string ⟨#[]⟩, .bool false, .bool false, .bool false, .int .i64 0, .slice none 0 0, .slice none 0 0] 36))
  have hld := laid8_at ((w.alloc (.cells #[.string (bs z)] 9)).alloc (.cells #[.string (bs u)] 9)) 36
  have hc1 := ((cells_at w #[.string (bs z)] 9).below (al1 _ (.cells #[.string (bs u)] 9))).below (al1 _ (.cells #[.string ⟨#[]⟩, .string ⟨#[]⟩, .bool false, .bool false, .bool false, .int .i64 0, .slice none 0 0, .slice none 0 0] 36))
  have hc2 := (cells_at (w.alloc (.cells #[.string (bs z)] 9)) #[.string (bs u)] 9).below (al1 _ (.cells #[.string ⟨#[]⟩, .string ⟨#[]⟩, .bool false, .bool false, .bool false, .int .i64 0, .slice none 0 0, .slice none 0 0] 36))
  rw [show ((w.alloc (.cells #[.string (bs z)] 9)).alloc (.cells #[.string (bs u)] 9)).heap.size = w.heap.size + 2 by simp] at hld
  rw [show (w.alloc (.cells #[.string (bs z)] 9)).heap.size = w.heap.size + 1 by simp] at hc2
  have HLd := Lib.hid hld
  have HC1 := Lib.hid hc1
  have HC2 := Lib.hid hc2
  have HB1 := Lib.hid ha2
  by_cases h0 : namedQ l q y = 0
  · obtain ⟨rfl, hk⟩ := namedQ_zero.1 h0
    have hV := worldIs_zero hq
    obtain ⟨s, e0, hC, hS, hoo⟩ := ho.1 h0
    have hfq : foundQ l 0 y o = if o.isSome = true then 0 else 3 := by unfold foundQ; rw [if_neg (fun h => h h0)]
    rw [hfq]
    have HS := Lib.hid ((world_supers l 0 y A n c _ hq (T.below ha2) (ClassRow.below R ha2) hA hu hw hn hy).mono fun _ _ h => lists_ok h0 h)
    have HCh := Lib.hid hC
    have HQ := Lib.hid (fun (w' : World) (hb : Below w.heap.size w w') (k1 : Cells w' w.heap.size #[.string (bs z)]) (k2 : Cells w' (w.heap.size + 1) #[.string (bs u)]) (M : Option Addr) (d : Nat) (S : StrRow w' M s.length d s) (he : s.length ≤ 1000) =>
      firstA_any l hV.1 (fun m => m.nm == z && m.ty == u) w.heap.size (w.heap.size + 1) s A n c M d w' (ClassRow.below R hb) S hn he (fun x _ => few_meths hV.1 hu x)
        (fun W hB => asked_any z u w.heap.size (w.heap.size + 1) W ((k1.below hB).2 0) ((k2.below hB).2 0) (k1.below hB).1 (k2.below hB).1))
    have HI := Lib.hid (fun (w' : World) (hb : Below w.heap.size w w') (k1 : Cells w' w.heap.size #[.string (bs z)]) (k2 : Cells w' (w.heap.size + 1) #[.string (bs u)]) (h : methFirst l z u s = none) =>
      inFaces_any l hq y z u hk s hC h hy e0 hS w.heap.size (w.heap.size + 1) A n c w' (T.below hb) (ClassRow.below R hb) hA hu hw hn (k1.2 0) (k2.2 0) k1.1 k2.1)
    have HF : methFirst l z u s = firstM l (fun m => m.nm == z && m.ty == u) s := rfl
    have hsome : ∀ r, methFirst l z u s = some r → o = some r := fun r h => by rw [hoo]; unfold foundFirst; rw [h]
    rw [← HF] at HQ
    rw [← hoo] at HI
    clear ha0 ha1 ha2 hld hc1 hc2 T R hA hu hw hq hk hC hV hS hoo hfq h0 HF ho
    generalize methFirst l z u s = o1 at *
    cases o1 with
    | some r =>
      obtain rfl := hsome r rfl
      obtain ⟨x, m⟩ := r
      clear HI hsome
      go_enter Tryd.func6, Tryd.ntmps6
      go_wp2_with (first
        | (go_at_call 11; (with_reducible refine HS.out.mono ?_); rintro e w2 ⟨M, s2, d, rfl, ho, hs2, hl2, hb⟩
           obtain rfl : s2 = s := hs2.one HCh.out
           have HFi := Lib.hid (HQ.out w2 (bnext HB1.out hb) (HC1.out.below hb) (HC2.out.below hb) M d ho.row (by omega))
           have HB2 := Lib.hid (bnext HB1.out hb)
           have HL2 := Lib.hid (HLd.out.below hb)
           clear ho hs2 hb)
        | (go_at_call 13; (with_reducible refine HFi.out.mono ?_); rintro e w3 ⟨v3, rfl, ⟨E1, r1, E2, r2, rfl⟩, hb⟩
           obtain ⟨g0, g1, g2, g3, g4, g5, g6, g7, g8, f1, f2, f3, f4, f5, f6, f7, f8⟩ := HL2.out.below hb
           have HB3 := Lib.hid (bnext HB2.out hb)
           clear hb))
      go_region
      go_wp2_with fail
      refine bodyPost_ret (v := .tuple #[.string (bs x), .agg #[.string (bs m.nm), .string (bs m.ty), .bool m.st, .bool m.ab, .bool m.pr, .int .i64 m.lo, .slice E1 0 r1, .slice E2 0 r2], .nilIface]) ?_ rfl ⟨_, rfl, ⟨_, _, _, _, rfl⟩, ?_⟩
      · simp [results, Tryd.results6, go_sem, *]
      · have B := HB3.out
        have hzb := B.size
        repeat (first | with_reducible exact B | with_reducible refine Below.drew ?_ | with_reducible refine bput_ ?_ (by omega) | with_reducible refine bal_ ?_ (by simp; omega))
    | none =>
      have HI2 := Lib.hid (fun w' hb k1 k2 => HI.out w' hb k1 k2 rfl)
      clear hsome HI
      cases o with
      | some r =>
        obtain ⟨x, m⟩ := r
        go_enter Tryd.func6, Tryd.ntmps6
        go_wp2_with (first
          | (go_at_call 11; (with_reducible refine HS.out.mono ?_); rintro e w2 ⟨M, s2, d, rfl, ho, hs2, hl2, hb⟩
             obtain rfl : s2 = s := hs2.one HCh.out
             have HFi := Lib.hid (HQ.out w2 (bnext HB1.out hb) (HC1.out.below hb) (HC2.out.below hb) M d ho.row (by omega))
             have HB2 := Lib.hid (bnext HB1.out hb)
             have HL2 := Lib.hid (HLd.out.below hb)
             have HD1 := Lib.hid (HC1.out.below hb)
             have HD2 := Lib.hid (HC2.out.below hb)
             clear ho hs2 hb)
          | (go_at_call 13; (with_reducible refine HFi.out.mono ?_); rintro e w3 ⟨v3, rfl, ⟨E1, r1, E2, r2, rfl⟩, hb⟩
             have HB3 := Lib.hid (bnext HB2.out hb)
             have HL3 := Lib.hid (HL2.out.below hb)
             have HFj := Lib.hid (fun o => HI2.out (w3.alloc o) (bnext HB3.out (al1 w3 o)) ((HD1.out.below hb).below (al1 w3 o)) ((HD2.out.below hb).below (al1 w3 o)))
             clear hb)
          | (go_at_call 14; (with_reducible refine (HFj.out _).mono ?_); rintro e w4 ⟨v4, rfl, ⟨E3, r3, E4, r4, rfl⟩, hb⟩
             have HB4 := Lib.hid (bnext (bnext HB3.out (al1 _ _)) hb)
             obtain ⟨g0, g1, g2, g3, g4, g5, g6, g7, g8, f1, f2, f3, f4, f5, f6, f7, f8⟩ := (HL3.out.below (al1 _ _)).below hb
             clear hb))
        refine bodyPost_ret (v := .tuple #[.string (bs x), .agg #[.string (bs m.nm), .string (bs m.ty), .bool m.st, .bool m.ab, .bool m.pr, .int .i64 m.lo, .slice E3 0 r3, .slice E4 0 r4], .nilIface]) ?_ rfl ⟨_, rfl, ⟨_, _, _, _, rfl⟩, ?_⟩
        · simp [results, Tryd.results6, go_sem, *]
          try rfl
        · have B := HB4.out
          have hzb := B.size
          repeat (first | with_reducible exact B | with_reducible refine Below.drew ?_ | with_reducible refine bput_ ?_ (by omega) | with_reducible refine bal_ ?_ (by simp; omega))
      | none =>
        go_enter Tryd.func6, Tryd.ntmps6
        go_wp2_with (first
          | (go_at_call 11; (with_reducible refine HS.out.mono ?_); rintro e w2 ⟨M, s2, d, rfl, ho, hs2, hl2, hb⟩
             obtain rfl : s2 = s := hs2.one HCh.out
             have HFi := Lib.hid (HQ.out w2 (bnext HB1.out hb) (HC1.out.below hb) (HC2.out.below hb) M d ho.row (by omega))
             have HB2 := Lib.hid (bnext HB1.out hb)
             have HL2 := Lib.hid (HLd.out.below hb)
             have HD1 := Lib.hid (HC1.out.below hb)
             have HD2 := Lib.hid (HC2.out.below hb)
             clear ho hs2 hb)
          | (go_at_call 13; (with_reducible refine HFi.out.mono ?_); rintro e w3 ⟨v3, rfl, ⟨E1, r1, E2, r2, rfl⟩, hb⟩
             have HB3 := Lib.hid (bnext HB2.out hb)
             have HL3 := Lib.hid (HL2.out.below hb)
             have HFj := Lib.hid (fun o => HI2.out (w3.alloc o) (bnext HB3.out (al1 w3 o)) ((HD1.out.below hb).below (al1 w3 o)) ((HD2.out.below hb).below (al1 w3 o)))
             clear hb)
          | (go_at_call 14; (with_reducible refine (HFj.out _).mono ?_); rintro e w4 ⟨v4, rfl, ⟨E3, r3, E4, r4, rfl⟩, hb⟩
             have HB4 := Lib.hid (bnext (bnext HB3.out (al1 _ _)) hb)
             obtain ⟨g0, g1, g2, g3, g4, g5, g6, g7, g8, f1, f2, f3, f4, f5, f6, f7, f8⟩ := (HL3.out.below (al1 _ _)).below hb
             clear hb))
        refine bodyPost_ret (v := .tuple #[.string ⟨#[]⟩, .agg #[.string ⟨#[]⟩, .string ⟨#[]⟩, .bool false, .bool false, .bool false, .int .i64 0, .slice E3 0 r3, .slice E4 0 r4], errV 3]) ?_ rfl ⟨_, rfl, ⟨_, _, _, _, rfl⟩, ?_⟩
        · simp [results, Tryd.results6, go_sem, *]
          try (first | rfl | exact ⟨rfl, rfl, rfl, rfl, rfl, rfl, rfl⟩)
        · have B := HB4.out
          have hzb := B.size
          repeat (first | with_reducible exact B | with_reducible refine Below.drew ?_ | with_reducible refine bput_ ?_ (by omega) | with_reducible refine bal_ ?_ (by simp; omega))
  · obtain rfl := ho.2 h0
    rw [foundQ_bad h0]
    have hne : (namedQ l q y != 0) = true := by rw [bne_iff_ne]; exact h0
    have HS := Lib.hid ((world_supers l q y A n c _ hq (T.below ha2) (ClassRow.below R ha2) hA hu hw hn hy).mono fun _ _ h => lists_bad h0 h)
    clear ha0 ha1 ha2 hld hc1 hc2 T R hA hu hw hq ho h0
    generalize namedQ l q y = r at *
    go_enter Tryd.func6, Tryd.ntmps6
    go_wp2_with (first
      | (go_at_call 11; (with_reducible refine HS.out.mono ?_); rintro e w2 ⟨M, d, rfl, ho, hb⟩
         obtain ⟨g0, g1, g2, g3, g4, g5, g6, g7, g8, f1, f2, f3, f4, f5, f6, f7, f8⟩ := HLd.out.below hb
         have HB2 := Lib.hid (bnext HB1.out hb)
         clear ho hb))
    refine bodyPost_ret (v := .tuple #[.string ⟨#[]⟩, .agg #[.string ⟨#[]⟩, .string ⟨#[]⟩, .bool false, .bool false, .bool false, .int .i64 0, .slice none 0 0, .slice none 0 0], errV r]) ?_ rfl ⟨_, rfl, ⟨none, 0, none, 0, rfl⟩, ?_⟩
    · simp [results, Tryd.results6, go_sem, *]
    · have B := HB2.out
      have hzb := B.size
      repeat (first | with_reducible exact B | with_reducible refine Below.drew ?_ | with_reducible refine bput_ ?_ (by omega) | with_reducible refine bal_ ?_ (by simp; omega))

end Go.Proofs.YtkolpbjpgobkcaaDoor
