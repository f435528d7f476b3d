/- Package find says what it must. -/
import Derived.Test.YtkolpbjpgobkcaaGreatDoorFiP2
import Derived.Test.YtkolpbjpgobkcaaGreatDoorWpH
namespace Go.Proofs.YtkolpbjpgobkcaaGreatDoor
open Go.ChangeShapes Go.WideShapes Go.ChangeAt Go.RowKit
set_option linter.unusedVariables false
attribute [local go_sem] eqGuard_errV_nil eqGuard_errV_iface eql_errV_nil neq_errV_nil eql_errV_form field_fields

/-- A right class has few members, none too long. -/
theorem few_meths {l : List ClassD} (hJ : Joined l) (hu : ∀ x ∈ l, x.upto 140737488351232) (x : List UInt8) : (classD l x).meths.length ≤ 1000000000 ∧ ∀ m ∈ (classD l x).meths, m.upto 140737488351232 := by
  unfold classD
  cases h : classOf l x with
  | none => exact ⟨by decide, fun m hm => (by cases hm)⟩
  | some c =>
    rcases classOf_in h with ⟨_, rfl⟩ | ⟨_, rfl⟩ | ⟨hm, _⟩
    · exact ⟨by decide, fun m hm => (by cases hm)⟩
    · exact ⟨by decide, fun m hm => (by cases hm)⟩
    · obtain ⟨_, _, h3, _⟩ := classF_zero.1 (hJ.cls hm)
      exact ⟨by show c.meths.length ≤ 1000000000; omega, (hu c hm).2.2.2.2.1⟩
theorem few_fields {l : List ClassD} (hJ : Joined l) (hu : ∀ x ∈ l, x.upto 140737488351232) (x : List UInt8) : (classD l x).fields.length ≤ 1000000000 ∧ ∀ m ∈ (classD l x).fields, m.upto 140737488351232 := by
  unfold classD
  cases h : classOf l x with
  | none => exact ⟨by decide, fun m hm => (by cases hm)⟩
  | some c =>
    rcases classOf_in h with ⟨_, rfl⟩ | ⟨_, rfl⟩ | ⟨hm, _⟩
    · exact ⟨by decide, fun m hm => (by cases hm)⟩
    · exact ⟨by decide, fun m hm => (by cases hm)⟩
    · obtain ⟨_, _, h3, _⟩ := classF_zero.1 (hJ.cls hm)
      exact ⟨by show c.fields.length ≤ 1000000000; omega, (hu c hm).2.2.2.1.1⟩

set_option maxRecDepth 20000 in
set_option maxHeartbeats 8000000 in
theorem inFaces_any (l : List ClassD) (hq : WorldIs l 0) (y z u : List UInt8) (hk : knownB l y = true) (s : List (List UInt8)) (hC : Chain l y s) (h0 : methFirst l z u s = none) (hy : y.length ≤ 140737488351232) (e0 : List (List UInt8)) (hS : Sorted l y e0) (b1 b2 : Nat)
    (A : Option Addr) (n c : Nat) (w : World) (T : Tab w) (R : ClassRow w A n c l) (hA : A = none → n = 0 ∧ c = 0) (hu : ∀ x ∈ l, x.upto 140737488351232) (hw : ∀ x ∈ l, x.wf) (hn : n ≤ 140737488351232) (h1 : w.cell? ⟨b1, 0, none⟩ = some (.string (bs z))) (h2 : w.cell? ⟨b2, 0, none⟩ = some (.string (bs u))) (hb1 : b1 < w.heap.size) (hb2 : b2 < w.heap.size) :
    Calls Tryz.prog 20 #[.slice A n c, .string (bs y), .func (.func 18) #[] #[.pointer (some ⟨b1, 0, none⟩), .pointer (some ⟨b2, 0, none⟩)]] w (FirstSays w (foundFirst l z u s e0)) := by
  have hV := worldIs_zero hq
  rw [faces_is hV.1 hC hS z u h0]
  have ha0 := al1 w (.cells #[.func (.func 18) #[] #[.pointer (some ⟨b1, 0, none⟩), .pointer (some ⟨b2, 0, none⟩)]] 58)
  have ha1 := bnext ha0 (al1 _ (.cells #[.string ⟨#[]⟩, .string ⟨#[]⟩, .bool false, .bool false, .bool false, .int .i64 0, .slice none 0 0, .slice none 0 0] 35))
  have hld := laid8_at (w.alloc (.cells #[.func (.func 18) #[] #[.pointer (some ⟨b1, 0, none⟩), .pointer (some ⟨b2, 0, none⟩)]] 58)) 35
  rw [show (w.alloc (.cells #[.func (.func 18) #[] #[.pointer (some ⟨b1, 0, none⟩), .pointer (some ⟨b2, 0, none⟩)]] 58)).heap.size = w.heap.size + 1 by simp] at hld
  have HLd := Lib.hid hld
  have HCf := Lib.hid ((cells_at w #[.func (.func 18) #[] #[.pointer (some ⟨b1, 0, none⟩), .pointer (some ⟨b2, 0, none⟩)]] 58).below (al1 _ (.cells #[.string ⟨#[]⟩, .string ⟨#[]⟩, .bool false, .bool false, .bool false, .int .i64 0, .slice none 0 0, .slice none 0 0] 35)))
  have HA := Lib.hid ((world_alls l 0 y A n c _ hq (T.below ha1) (ClassRow.below R ha1) hA hu hw hn hy).mono fun _ _ h => lists_ok (namedQ_zero.2 ⟨rfl, hk⟩) h)
  have HB1 := Lib.hid ha1
  have HSo := Lib.hid hS
  have HW := Lib.hid (fun (w' : World) (hb : Below w.heap.size w w') (hcf : Cells w' w.heap.size #[.func (.func 18) #[] #[.pointer (some ⟨b1, 0, none⟩), .pointer (some ⟨b2, 0, none⟩)]]) (M : Option Addr) (d : Nat) (S : StrRow w' M e0.length d e0) (he : e0.length ≤ 1000) =>
    firstW_any l hV.1 (fun m => (m.nm == z && m.ty == u) && !m.ab) w.heap.size e0 A n c M d w' (ClassRow.below R hb) S hn he (fun x _ => few_meths hV.1 hu x)
      (fun W hB => whole_any z u b1 b2 w.heap.size W (((hb.trans (hB.mono hb.size)).cell (p := ⟨b1, 0, none⟩) hb1).trans h1) (((hb.trans (hB.mono hb.size)).cell (p := ⟨b2, 0, none⟩) hb2).trans h2) ((hcf.below hB).2 0) (Nat.lt_of_lt_of_le hb1 (hb.trans (hB.mono hb.size)).size) (Nat.lt_of_lt_of_le hb2 (hb.trans (hB.mono hb.size)).size) (hcf.below hB).1))
  have HQ := Lib.hid (fun (w' : World) (hb : Below w.heap.size w w') (M : Option Addr) (d : Nat) (S : StrRow w' M e0.length d e0) (he : e0.length ≤ 1000) =>
    firstA_any l hV.1 (fun m => m.nm == z && m.ty == u) b1 b2 e0 A n c M d w' (ClassRow.below R hb) S hn he (fun x _ => few_meths hV.1 hu x)
      (fun W hB => asked_any z u b1 b2 W (((hb.trans (hB.mono hb.size)).cell (p := ⟨b1, 0, none⟩) hb1).trans h1) (((hb.trans (hB.mono hb.size)).cell (p := ⟨b2, 0, none⟩) hb2).trans h2) (Nat.lt_of_lt_of_le hb1 (hb.trans (hB.mono hb.size)).size) (Nat.lt_of_lt_of_le hb2 (hb.trans (hB.mono hb.size)).size)))
  clear ha0 ha1 hld T R hA hu hw hq hk hC h0 h1 h2 hb1 hb2 hV hS
  generalize firstM l (fun m => (m.nm == z && m.ty == u) && !m.ab) e0 = o1 at *
  generalize firstM l (fun m => m.nm == z && m.ty == u) e0 = o2 at *
  cases o1 with
  | some r =>
    obtain ⟨x, m⟩ := r
    clear HQ
    go_enter Tryz.func20, Tryz.ntmps20
    go_wp2_with (first
      | (go_at_call 36; (with_reducible refine HA.out.mono ?_); rintro e w2 ⟨M, s2, d, rfl, ho, hs2, hl2, hb⟩
         obtain rfl : s2 = e0 := hs2.one HSo.out
         have HFi := Lib.hid (HW.out w2 (bnext HB1.out hb) (HCf.out.below hb) M d ho.row (by omega))
         have HB2 := Lib.hid (bnext HB1.out hb)
         have HL2 := Lib.hid (HLd.out.below hb)
         have HC2 := Lib.hid (HCf.out.below hb)
         have HS2 := Lib.hid ho.row
         clear ho hs2 hb)
      | (go_at_call 19; (with_reducible refine HFi.out.mono ?_); rintro e w3 ⟨v3, rfl, ⟨E1, r1, E2, r2, rfl⟩, hb⟩
         obtain ⟨g0, g1, g2, g3, g4, g5, g6, g7, g8, f1, f2, f3, f4, f5, f6, f7, f8⟩ := HL2.out.below hb
         have HB3 := Lib.hid (bnext HB2.out hb)
         clear hb))
    go_region
    go_wp2_with fail
    refine bodyPost_ret (v := .tuple #[.string (bs x), .agg #[.string (bs m.nm), .string (bs m.ty), .bool m.st, .bool m.ab, .bool m.pr, .int .i64 m.lo, .slice E1 0 r1, .slice E2 0 r2], .nilIface]) ?_ rfl ⟨_, rfl, ⟨_, _, _, _, rfl⟩, ?_⟩
    · simp [results, Tryz.results20, go_sem, *]
    · have B := HB3.out
      have hzb := B.size
      repeat (first | with_reducible exact B | with_reducible refine Below.drew ?_ | with_reducible refine bput_ ?_ (Nat.le_succ _) | with_reducible refine bal_ ?_ (by simp; omega))
  | none =>
    cases o2 with
    | some r =>
      obtain ⟨x, m⟩ := r
      go_enter Tryz.func20, Tryz.ntmps20
      go_wp2_with (first
      | (go_at_call 36; (with_reducible refine HA.out.mono ?_); rintro e w2 ⟨M, s2, d, rfl, ho, hs2, hl2, hb⟩
         obtain rfl : s2 = e0 := hs2.one HSo.out
         have HFi := Lib.hid (HW.out w2 (bnext HB1.out hb) (HCf.out.below hb) M d ho.row (by omega))
         have HB2 := Lib.hid (bnext HB1.out hb)
         have HL2 := Lib.hid (HLd.out.below hb)
         have HC2 := Lib.hid (HCf.out.below hb)
         have HS2 := Lib.hid ho.row
         clear ho hs2 hb)
      | (go_at_call 19; (with_reducible refine HFi.out.mono ?_); rintro e w3 ⟨v3, rfl, ⟨E1, r1, E2, r2, rfl⟩, hb⟩
         have HB3 := Lib.hid (bnext HB2.out hb)
         have HL3 := Lib.hid (HL2.out.below hb)
         have HC3 := Lib.hid (HC2.out.below hb)
         have hc3 : w3.cell? ⟨w.heap.size, 0, none⟩ = some (.func (.func 18) #[] #[.pointer (some ⟨b1, 0, none⟩), .pointer (some ⟨b2, 0, none⟩)]) := HC3.out.2 0
         have hz3 := HC3.out.1
         have HFj := Lib.hid (fun o => HQ.out (w3.alloc o) (bnext HB3.out (al1 w3 o)) M d (StrRow.below HS2.out (bnext hb (al1 w3 o))) (by omega))
         clear hb)
      | (go_at_call 19; (with_reducible refine (HFj.out _).mono ?_); rintro e w4 ⟨v4, rfl, ⟨E3, r3, E4, r4, rfl⟩, hb⟩
         have HB4 := Lib.hid (bnext (bnext HB3.out (al1 _ _)) hb)
         obtain ⟨g0, g1, g2, g3, g4, g5, g6, g7, g8, f1, f2, f3, f4, f5, f6, f7, f8⟩ := (HL3.out.below (al1 _ _)).below hb
         clear hb))
      refine bodyPost_ret (v := .tuple #[.string (bs x), .agg #[.string (bs m.nm), .string (bs m.ty), .bool m.st, .bool m.ab, .bool m.pr, .int .i64 m.lo, .slice E3 0 r3, .slice E4 0 r4], .nilIface]) ?_ rfl ⟨_, rfl, ⟨_, _, _, _, rfl⟩, ?_⟩
      · simp [results, Tryz.results20, go_sem, *]
        try (first | rfl | exact ⟨rfl, rfl, rfl, rfl, rfl, rfl, rfl⟩)
      · have B := HB4.out
        have hzb := B.size
        repeat (first | with_reducible exact B | with_reducible refine Below.drew ?_ | with_reducible refine bput_ ?_ (Nat.le_succ _) | with_reducible refine bal_ ?_ (by simp; omega))
    | none =>
      go_enter Tryz.func20, Tryz.ntmps20
      go_wp2_with (first
      | (go_at_call 36; (with_reducible refine HA.out.mono ?_); rintro e w2 ⟨M, s2, d, rfl, ho, hs2, hl2, hb⟩
         obtain rfl : s2 = e0 := hs2.one HSo.out
         have HFi := Lib.hid (HW.out w2 (bnext HB1.out hb) (HCf.out.below hb) M d ho.row (by omega))
         have HB2 := Lib.hid (bnext HB1.out hb)
         have HL2 := Lib.hid (HLd.out.below hb)
         have HC2 := Lib.hid (HCf.out.below hb)
         have HS2 := Lib.hid ho.row
         clear ho hs2 hb)
      | (go_at_call 19; (with_reducible refine HFi.out.mono ?_); rintro e w3 ⟨v3, rfl, ⟨E1, r1, E2, r2, rfl⟩, hb⟩
         have HB3 := Lib.hid (bnext HB2.out hb)
         have HL3 := Lib.hid (HL2.out.below hb)
         have HC3 := Lib.hid (HC2.out.below hb)
         have hc3 : w3.cell? ⟨w.heap.size, 0, none⟩ = some (.func (.func 18) #[] #[.pointer (some ⟨b1, 0, none⟩), .pointer (some ⟨b2, 0, none⟩)]) := HC3.out.2 0
         have hz3 := HC3.out.1
         have HFj := Lib.hid (fun o => HQ.out (w3.alloc o) (bnext HB3.out (al1 w3 o)) M d (StrRow.below HS2.out (bnext hb (al1 w3 o))) (by omega))
         clear hb)
      | (go_at_call 19; (with_reducible refine (HFj.out _).mono ?_); rintro e w4 ⟨v4, rfl, ⟨E3, r3, E4, r4, rfl⟩, hb⟩
         have HB4 := Lib.hid (bnext (bnext HB3.out (al1 _ _)) hb)
         obtain ⟨g0, g1, g2, g3, g4, g5, g6, g7, g8, f1, f2, f3, f4, f5, f6, f7, f8⟩ := (HL3.out.below (al1 _ _)).below hb
         clear hb))
      refine bodyPost_ret (v := .tuple #[.string ⟨#[]⟩, .agg #[.string ⟨#[]⟩, .string ⟨#[]⟩, .bool false, .bool false, .bool false, .int .i64 0, .slice E3 0 r3, .slice E4 0 r4], errV 3]) ?_ rfl ⟨_, rfl, ⟨_, _, _, _, rfl⟩, ?_⟩
      · simp [results, Tryz.results20, go_sem, *]
        try (first | rfl | exact ⟨rfl, rfl, rfl, rfl, rfl, rfl, rfl⟩)
      · have B := HB4.out
        have hzb := B.size
        repeat (first | with_reducible exact B | with_reducible refine Below.drew ?_ | with_reducible refine bput_ ?_ (Nat.le_succ _) | with_reducible refine bal_ ?_ (by simp; omega))

set_option maxRecDepth 20000 in
set_option maxHeartbeats 8000000 in
theorem find_meths : FindMeths := by
  intro l q y z u o A n c w hq ho T R hA hu hw hn hy hz hz'
  have ha0 := al1 w (.cells #[.string (bs z)] 9)
  have ha1 := bnext ha0 (al1 (w.alloc (.cells #[.string (bs z)] 9)) (.cells #[.string (bs u)] 9))
  have ha2 := bnext ha1 (al1 ((w.alloc (.cells #[.string (bs z)] 9)).alloc (.cells #[.string (bs u)] 9)) (.cells #[.string ⟨#[]⟩, .string ⟨#[]⟩, .bool false, .bool false, .bool false, .int .i64 0, .slice none 0 0, .slice none 0 0] 35))
  have hld := laid8_at ((w.alloc (.cells #[.string (bs z)] 9)).alloc (.cells #[.string (bs u)] 9)) 35
  have hc1 := ((cells_at w #[.string (bs z)] 9).below (al1 _ (.cells #[.string (bs u)] 9))).below (al1 _ (.cells #[.string ⟨#[]⟩, .string ⟨#[]⟩, .bool false, .bool false, .bool false, .int .i64 0, .slice none 0 0, .slice none 0 0] 35))
  have hc2 := (cells_at (w.alloc (.cells #[.string (bs z)] 9)) #[.string (bs u)] 9).below (al1 _ (.cells #[.string ⟨#[]⟩, .string ⟨#[]⟩, .bool false, .bool false, .bool false, .int .i64 0, .slice none 0 0, .slice none 0 0] 35))
  rw [show ((w.alloc (.cells #[.string (bs z)] 9)).alloc (.cells #[.string (bs u)] 9)).heap.size = w.heap.size + 2 by simp] at hld
  rw [show (w.alloc (.cells #[.string (bs z)] 9)).heap.size = w.heap.size + 1 by simp] at hc2
  have HLd := Lib.hid hld
  have HC1 := Lib.hid hc1
  have HC2 := Lib.hid hc2
  have HB1 := Lib.hid ha2
  by_cases h0 : namedQ l q y = 0
  · obtain ⟨rfl, hk⟩ := namedQ_zero.1 h0
    have hV := worldIs_zero hq
    obtain ⟨s, e0, hC, hS, hoo⟩ := ho.1 h0
    have hfq : foundQ l 0 y o = if o.isSome = true then 0 else 3 := by unfold foundQ; rw [if_neg (fun h => h h0)]
    rw [hfq]
    have HS := Lib.hid ((world_supers l 0 y A n c _ hq (T.below ha2) (ClassRow.below R ha2) hA hu hw hn hy).mono fun _ _ h => lists_ok h0 h)
    have HCh := Lib.hid hC
    have HQ := Lib.hid (fun (w' : World) (hb : Below w.heap.size w w') (k1 : Cells w' w.heap.size #[.string (bs z)]) (k2 : Cells w' (w.heap.size + 1) #[.string (bs u)]) (M : Option Addr) (d : Nat) (S : StrRow w' M s.length d s) (he : s.length ≤ 1000) =>
      firstA_any l hV.1 (fun m => m.nm == z && m.ty == u) w.heap.size (w.heap.size + 1) s A n c M d w' (ClassRow.below R hb) S hn he (fun x _ => few_meths hV.1 hu x)
        (fun W hB => asked_any z u w.heap.size (w.heap.size + 1) W ((k1.below hB).2 0) ((k2.below hB).2 0) (k1.below hB).1 (k2.below hB).1))
    have HI := Lib.hid (fun (w' : World) (hb : Below w.heap.size w w') (k1 : Cells w' w.heap.size #[.string (bs z)]) (k2 : Cells w' (w.heap.size + 1) #[.string (bs u)]) (h : methFirst l z u s = none) =>
      inFaces_any l hq y z u hk s hC h hy e0 hS w.heap.size (w.heap.size + 1) A n c w' (T.below hb) (ClassRow.below R hb) hA hu hw hn (k1.2 0) (k2.2 0) k1.1 k2.1)
    have HF : methFirst l z u s = firstM l (fun m => m.nm == z && m.ty == u) s := rfl
    have hsome : ∀ r, methFirst l z u s = some r → o = some r := fun r h => by rw [hoo]; unfold foundFirst; rw [h]
    rw [← HF] at HQ
    rw [← hoo] at HI
    clear ha0 ha1 ha2 hld hc1 hc2 T R hA hu hw hq hk hC hV hS hoo hfq h0 HF ho
    generalize methFirst l z u s = o1 at *
    cases o1 with
    | some r =>
      obtain rfl := hsome r rfl
      obtain ⟨x, m⟩ := r
      clear HI hsome
      go_enter Tryz.func7, Tryz.ntmps7
      go_wp2_with (first
        | (go_at_call 15; (with_reducible refine HS.out.mono ?_); rintro e w2 ⟨M, s2, d, rfl, ho, hs2, hl2, hb⟩
           obtain rfl : s2 = s := hs2.one HCh.out
           have HFi := Lib.hid (HQ.out w2 (bnext HB1.out hb) (HC1.out.below hb) (HC2.out.below hb) M d ho.row (by omega))
           have HB2 := Lib.hid (bnext HB1.out hb)
           have HL2 := Lib.hid (HLd.out.below hb)
           clear ho hs2 hb)
        | (go_at_call 19; (with_reducible refine HFi.out.mono ?_); rintro e w3 ⟨v3, rfl, ⟨E1, r1, E2, r2, rfl⟩, hb⟩
           obtain ⟨g0, g1, g2, g3, g4, g5, g6, g7, g8, f1, f2, f3, f4, f5, f6, f7, f8⟩ := HL2.out.below hb
           have HB3 := Lib.hid (bnext HB2.out hb)
           clear hb))
      go_region
      go_wp2_with fail
      refine bodyPost_ret (v := .tuple #[.string (bs x), .agg #[.string (bs m.nm), .string (bs m.ty), .bool m.st, .bool m.ab, .bool m.pr, .int .i64 m.lo, .slice E1 0 r1, .slice E2 0 r2], .nilIface]) ?_ rfl ⟨_, rfl, ⟨_, _, _, _, rfl⟩, ?_⟩
      · simp [results, Tryz.results7, go_sem, *]
      · have B := HB3.out
        have hzb := B.size
        repeat (first | with_reducible exact B | with_reducible refine Below.drew ?_ | with_reducible refine bput_ ?_ (by omega) | with_reducible refine bal_ ?_ (by simp; omega))
    | none =>
      have HI2 := Lib.hid (fun w' hb k1 k2 => HI.out w' hb k1 k2 rfl)
      clear hsome HI
      cases o with
      | some r =>
        obtain ⟨x, m⟩ := r
        go_enter Tryz.func7, Tryz.ntmps7
        go_wp2_with (first
          | (go_at_call 15; (with_reducible refine HS.out.mono ?_); rintro e w2 ⟨M, s2, d, rfl, ho, hs2, hl2, hb⟩
             obtain rfl : s2 = s := hs2.one HCh.out
             have HFi := Lib.hid (HQ.out w2 (bnext HB1.out hb) (HC1.out.below hb) (HC2.out.below hb) M d ho.row (by omega))
             have HB2 := Lib.hid (bnext HB1.out hb)
             have HL2 := Lib.hid (HLd.out.below hb)
             have HD1 := Lib.hid (HC1.out.below hb)
             have HD2 := Lib.hid (HC2.out.below hb)
             clear ho hs2 hb)
          | (go_at_call 19; (with_reducible refine HFi.out.mono ?_); rintro e w3 ⟨v3, rfl, ⟨E1, r1, E2, r2, rfl⟩, hb⟩
             have HB3 := Lib.hid (bnext HB2.out hb)
             have HL3 := Lib.hid (HL2.out.below hb)
             have HFj := Lib.hid (fun o => HI2.out (w3.alloc o) (bnext HB3.out (al1 w3 o)) ((HD1.out.below hb).below (al1 w3 o)) ((HD2.out.below hb).below (al1 w3 o)))
             clear hb)
          | (go_at_call 20; (with_reducible refine (HFj.out _).mono ?_); rintro e w4 ⟨v4, rfl, ⟨E3, r3, E4, r4, rfl⟩, hb⟩
             have HB4 := Lib.hid (bnext (bnext HB3.out (al1 _ _)) hb)
             obtain ⟨g0, g1, g2, g3, g4, g5, g6, g7, g8, f1, f2, f3, f4, f5, f6, f7, f8⟩ := (HL3.out.below (al1 _ _)).below hb
             clear hb))
        refine bodyPost_ret (v := .tuple #[.string (bs x), .agg #[.string (bs m.nm), .string (bs m.ty), .bool m.st, .bool m.ab, .bool m.pr, .int .i64 m.lo, .slice E3 0 r3, .slice E4 0 r4], .nilIface]) ?_ rfl ⟨_, rfl, ⟨_, _, _, _, rfl⟩, ?_⟩
        · simp [results, Tryz.results7, go_sem, *]
          try rfl
        · have B := HB4.out
          have hzb := B.size
          repeat (first | with_reducible exact B | with_reducible refine Below.drew ?_ | with_reducible refine bput_ ?_ (by omega) | with_reducible refine bal_ ?_ (by simp; omega))
      | none =>
        go_enter Tryz.func7, Tryz.ntmps7
        go_wp2_with (first
          | (go_at_call 15; (with_reducible refine HS.out.mono ?_); rintro e w2 ⟨M, s2, d, rfl, ho, hs2, hl2, hb⟩
             obtain rfl : s2 = s := hs2.one HCh.out
             have HFi := Lib.hid (HQ.out w2 (bnext HB1.out hb) (HC1.out.below hb) (HC2.out.below hb) M d ho.row (by omega))
             have HB2 := Lib.hid (bnext HB1.out hb)
             have HL2 := Lib.hid (HLd.out.below hb)
             have HD1 := Lib.hid (HC1.out.below hb)
             have HD2 := Lib.hid (HC2.out.below hb)
             clear ho hs2 hb)
          | (go_at_call 19; (with_reducible refine HFi.out.mono ?_); rintro e w3 ⟨v3, rfl, ⟨E1, r1, E2, r2, rfl⟩, hb⟩
             have HB3 := Lib.hid (bnext HB2.out hb)
             have HL3 := Lib.hid (HL2.out.below hb)
             have HFj := Lib.hid (fun o => HI2.out (w3.alloc o) (bnext HB3.out (al1 w3 o)) ((HD1.out.below hb).below (al1 w3 o)) ((HD2.out.below hb).below (al1 w3 o)))
             clear hb)
          | (go_at_call 20; (with_reducible refine (HFj.out _).mono ?_); rintro e w4 ⟨v4, rfl, ⟨E3, r3, E4, r4, rfl⟩, hb⟩
             have HB4 := Lib.hid (bnext (bnext HB3.out (al1 _ _)) hb)
             obtain ⟨g0, g1, g2, g3, g4, g5, g6, g7, g8, f1, f2, f3, f4, f5, f6, f7, f8⟩ := (HL3.out.below (al1 _ _)).below hb
             clear hb))
        refine bodyPost_ret (v := .tuple #[.string ⟨#[]⟩, .agg #[.string ⟨#[]⟩, .string ⟨#[]⟩, .bool false, .bool false, .bool false, .int .i64 0, .slice E3 0 r3, .slice E4 0 r4], errV 3]) ?_ rfl ⟨_, rfl, ⟨_, _, _, _, rfl⟩, ?_⟩
        · simp [results, Tryz.results7, go_sem, *]
          try (first | rfl | exact ⟨rfl, rfl, rfl, rfl, rfl, rfl, rfl⟩)
        · have B := HB4.out
          have hzb := B.size
          repeat (first | with_reducible exact B | with_reducible refine Below.drew ?_ | with_reducible refine bput_ ?_ (by omega) | with_reducible refine bal_ ?_ (by simp; omega))
  · obtain rfl := ho.2 h0
    rw [foundQ_bad h0]
    have hne : (namedQ l q y != 0) = true := by rw [bne_iff_ne]; exact h0
    have HS := Lib.hid ((world_supers l q y A n c _ hq (T.below ha2) (ClassRow.below R ha2) hA hu hw hn hy).mono fun _ _ h => lists_bad h0 h)
    clear ha0 ha1 ha2 hld hc1 hc2 T R hA hu hw hq ho h0
    generalize namedQ l q y = r at *
    go_enter Tryz.func7, Tryz.ntmps7
    go_wp2_with (first
      | (go_at_call 15; (with_reducible refine HS.out.mono ?_); rintro e w2 ⟨M, d, rfl, ho, hb⟩
         obtain ⟨g0, g1, g2, g3, g4, g5, g6, g7, g8, f1, f2, f3, f4, f5, f6, f7, f8⟩ := HLd.out.below hb
         have HB2 := Lib.hid (bnext HB1.out hb)
         clear ho hb))
    refine bodyPost_ret (v := .tuple #[.string ⟨#[]⟩, .agg #[.string ⟨#[]⟩, .string ⟨#[]⟩, .bool false, .bool false, .bool false, .int .i64 0, .slice none 0 0, .slice none 0 0], errV r]) ?_ rfl ⟨_, rfl, ⟨none, 0, none, 0, rfl⟩, ?_⟩
    · simp [results, Tryz.results7, go_sem, *]
    · have B := HB2.out
      have hzb := B.size
      repeat (first | with_reducible exact B | with_reducible refine Below.drew ?_ | with_reducible refine bput_ ?_ (by omega) | with_reducible refine bal_ ?_ (by simp; omega))

set_option maxRecDepth 20000 in
set_option maxHeartbeats 8000000 in
theorem find_fields : FindFields := by
  intro l q y z o A n c w hq ho T R hA hu hw hn hy hz
  have ha0 := al1 w (.cells #[.string ⟨#[]⟩, .string ⟨#[]⟩] 27)
  have HLd := Lib.hid (laid2_at w 27)
  have HB1 := Lib.hid ha0
  by_cases h0 : namedQ l q y = 0
  · obtain ⟨rfl, hk⟩ := namedQ_zero.1 h0
    have hV := worldIs_zero hq
    obtain ⟨s, hC, hoo⟩ := ho.1 h0
    have hfq : foundQ l 0 y o = if o.isSome = true then 0 else 3 := by unfold foundQ; rw [if_neg (fun h => h h0)]
    obtain ⟨qf, hqf⟩ : ∃ qf : Nat, qf = (if o.isSome = true then 0 else 3) := ⟨_, rfl⟩
    rw [hfq, ← hqf]
    have HQf := Lib.hid hqf
    clear hqf
    have HS := Lib.hid ((world_supers l 0 y A n c _ hq (T.below ha0) (ClassRow.below R ha0) hA hu hw hn hy).mono fun _ _ h => lists_ok h0 h)
    have HCh := Lib.hid hC
    have HR := Lib.hid R
    have HG := Lib.hid (fun y W R => given_any l y A n c W R hn)
    have HOwn := Lib.hid (fun f hf W => ownField_any f hf W)
    have HJ := Lib.hid hV.1
    have HF := Lib.hid (fun x => few_fields hV.1 hu x)
    have HP0 := Lib.hid (NoneTo.start (fun x => (fieldIn z (classD l x)).map (fun f => (x, f))) s)
    clear ha0 T R hA hu hw hq hk hC hV hfq h0 ho
    go_enter Tryz.func6, Tryz.ntmps6
    go_wp2_with (first
      | (go_at_call 15; (with_reducible refine HS.out.mono ?_); rintro e w1 ⟨M, s2, d, rfl, ho, hs2, hl2, hb⟩
         obtain rfl : s2 = s := hs2.one HCh.out
         have HO := Lib.hid ho.row
         have HB0 := Lib.hid (bnext HB1.out hb)
         have HL0 := Lib.hid (HLd.out.below hb)
         clear ho hs2 hb))
    go_loopw [12, 14, 27] (fun _ _ i wr => ∃ t : Nat, t ≤ s2.length ∧ i = .int .i64 t ∧ Hid (NoneTo (fun x => (fieldIn z (classD l x)).map (fun f => (x, f))) s2 t) ∧ Hid (Below w1.heap.size w1 wr)) (fun _ _ i _ => s2.length - (intOf i).toNat)
    case atStart => exact ⟨0, Nat.zero_le _, rfl, HP0, Lib.hid (Below.refl _ _)⟩
    case round =>
      obtain ⟨t, ht, rfl, HN, HB⟩ := hrel
      by_cases hlt : t < s2.length
      · obtain ⟨b1_, o1, rfl, hb1, hx1⟩ := SRow.at_ (StrRow.below HO.out HB.out) hlt
        rw [Nat.mul_one] at hx1
        unfold StrAt at hx1
        have HGx := Lib.hid (HG.out s2[t] wr (ClassRow.below HR.out (bnext HB0.out HB.out)))
        have hfx := HF.out s2[t]
        have HGm := Lib.hid (given_lists HJ.out s2[t]).1
        have HHit := Lib.hid (show ∀ m, (classD l s2[t]).fields.find? (fun f => f.nm == z) = some m → o = some (s2[t], m) from fun m h => by rw [hoo]; exact HN.out.hit hlt (by unfold fieldIn; rw [h]; rfl))
        have HNx := Lib.hid (show (classD l s2[t]).fields.find? (fun f => f.nm == z) = none → _ from fun h => HN.out.next hlt (by unfold fieldIn; rw [h]; rfl))
        generalize s2[t] = x at *
        unfold GivenSays at HGx
        generalize (classD l x).fields = ms at *
        generalize givenD l x = gx at *
        have HFx := Lib.hid hfx.2
        have hfl := hfx.1
        have HOo := Lib.hid hoo
        clear hfx hoo
        go_wp2_with (first
          | (go_at_call 16; (with_reducible refine HGx.out.mono ?_); rintro e w2 ⟨v2, rfl, hh, hb⟩
             obtain ⟨pA, pi, pj, pB, pk, pl, pC, pm, pn, rfl, _, RF, _, _, NF, _⟩ := hh
             rw [HGm.out] at RF
             have hpm : ms.length = pk := RF.1
             have HM2 := Lib.hid RF
             have HB2 := Lib.hid (bnext HB.out hb)
             have HB2w := Lib.hid (bnext HB0.out (bnext HB.out hb))
             have HL2 := Lib.hid (HL0.out.below (bnext HB.out hb))
             clear hb RF))
        have HPm := Lib.hid hpm
        clear hpm
        go_loopw [14, 36] (fun _ i wq => ∃ k : Nat, k ≤ pk ∧ i = .int .i64 k ∧ Hid (NotTo (fun f : FieldD => f.nm == z) ms k) ∧ Hid (Below w2.heap.size w2 wq)) (fun _ i _ => pk - (intOf i).toNat)
        case atStart => exact ⟨0, Nat.zero_le _, rfl, Lib.hid (NotTo.start _ _), Lib.hid (Below.refl _ _)⟩
        case round =>
          obtain ⟨k, hk, rfl, HK, HBq⟩ := hrel
          by_cases hlk : k < pk
          · obtain ⟨b3, o3, rfl, hb3, hx3⟩ := SRow.at_ (FieldRow.below HM2.out HBq.out) hlk
            have hk1 : k < ms.length := by rw [HPm.out]; exact hlk
            have hup := HFx.out _ (List.getElem_mem hk1)
            have HFo := Lib.hid (show (ms[k].nm == z) = true → o = some (x, ms[k]) from fun h => HHit.out _ (HK.out.hit hk1 h))
            have HKn := Lib.hid (show (ms[k].nm == z) = false → _ from fun h => HK.out.next hk1 h)
            generalize ms[k] = f at *
            obtain ⟨d0, d1⟩ := hx3
            have HBx := Lib.hid (cells_at _ #[.string (bs f.nm), .string (bs f.ty)] 27 : Cells (wr.alloc _) wr.heap.size _)
            have HBw := Lib.hid (bnext HB2w.out (bnext HBq.out (al1 _ (.cells #[.string (bs f.nm), .string (bs f.ty)] 27))))
            have HLq := Lib.hid (HL2.out.below (bnext HBq.out (al1 _ (.cells #[.string (bs f.nm), .string (bs f.ty)] 27))))
            have HBr := Lib.hid (bnext HBq.out (al1 _ (.cells #[.string (bs f.nm), .string (bs f.ty)] 27)))
            have HOx := HOwn.out f hup
            unfold fieldV at HOx
            replace HOx := Lib.hid HOx
            clear hup
            by_cases hp : f.nm = z
            · have e5 : ((bs f.nm).toList == (bs z).toList) = true := by rw [hp]; simp
              have HV := Lib.hid (HFo.out (by rw [hp]; simp))
              clear HFo HKn hp
              go_wp2_with (first
                | (go_at_call 17; (with_reducible refine (HOx.out _).mono ?_); rintro e w5 ⟨rfl, hb⟩
                   obtain ⟨g0, g1, g2, f1, f2⟩ := HLq.out.below hb
                   have HB5 := Lib.hid (bnext HBw.out hb)
                   clear hb))
              refine bodyPost_ret (v := .tuple #[.string (bs x), .agg #[.string (bs f.nm), .string (bs f.ty)], .nilIface]) ?_ rfl ⟨by rw [HQf.out, HV.out]; rfl, ?_⟩
              · simp [results, Tryz.results6, go_sem, *]
              · have B := HB5.out
                have hzb := B.size
                repeat (first | with_reducible exact B | with_reducible refine bput_ ?_ (Nat.le_refl _) | with_reducible refine bal_ ?_ (by simp; omega))
            · have e5 : ((bs f.nm).toList == (bs z).toList) = false := str_ne_ hp
              have HK2 := Lib.hid (HKn.out (by rw [beq_eq_false_iff_ne]; exact hp))
              clear HFo HKn hp HOx
              go_wp2_with fail
              go_roundw
              case rel => exact ⟨k + 1, by omega, by go_num, HK2, HBr⟩
              case measure => first | (simp [intOf]; omega) | simp [intOf]
          · obtain rfl : k = pk := by omega
            have HN2 := Lib.hid (HNx.out (HK.out.all (by rw [HPm.out]; exact Nat.le_refl _)))
            have HB3 := Lib.hid (bnext HB2.out HBq.out)
            go_wp2_with fail
            go_roundw
            case rel => exact ⟨t + 1, by omega, by go_num, HN2, HB3⟩
            case measure => first | (simp [intOf]; omega) | simp [intOf]
      · obtain rfl : t = s2.length := by omega
        have HV := Lib.hid (show o = none from by rw [hoo]; exact HN.out.all (Nat.le_refl _))
        obtain ⟨g0, g1, g2, f1, f2⟩ := HL0.out.below HB.out
        clear hoo
        go_wp2_with fail
        refine bodyPost_ret (v := .tuple #[.string ⟨#[]⟩, .agg #[.string ⟨#[]⟩, .string ⟨#[]⟩], errV 3]) ?_ rfl ⟨by rw [HQf.out, HV.out]; rfl, ?_⟩
        · simp [results, Tryz.results6, go_sem, *]
          try rfl
        · have B := bnext HB0.out HB.out
          repeat (first | with_reducible exact B | with_reducible refine bput_ ?_ (Nat.le_refl _))
  · obtain rfl := ho.2 h0
    rw [foundQ_bad h0]
    have hne : (namedQ l q y != 0) = true := by rw [bne_iff_ne]; exact h0
    have HS := Lib.hid ((world_supers l q y A n c _ hq (T.below ha0) (ClassRow.below R ha0) hA hu hw hn hy).mono fun _ _ h => lists_bad h0 h)
    clear ha0 T R hA hu hw hq ho h0
    generalize namedQ l q y = r at *
    go_enter Tryz.func6, Tryz.ntmps6
    go_wp2_with (first
      | (go_at_call 15; (with_reducible refine HS.out.mono ?_); rintro e w2 ⟨M, d, rfl, ho, hb⟩
         obtain ⟨g0, g1, g2, f1, f2⟩ := HLd.out.below hb
         have HB2 := Lib.hid (bnext HB1.out hb)
         clear ho hb))
    refine bodyPost_ret (v := .tuple #[.string ⟨#[]⟩, .agg #[.string ⟨#[]⟩, .string ⟨#[]⟩], errV r]) ?_ rfl ⟨rfl, ?_⟩
    · simp [results, Tryz.results6, go_sem, *]
    · have B := HB2.out
      have hzb := B.size
      repeat (first | with_reducible exact B | with_reducible refine bput_ ?_ (Nat.le_refl _))
end Go.Proofs.YtkolpbjpgobkcaaGreatDoor
