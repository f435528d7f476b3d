/- The walk of coffeehouselaw6.JoinSupers, from what packages world and join say. -/
import Derived.Test.YtnmfcckahglbbaaGreatDoorJoR
import Derived.Test.YtnmfcckahglbbaaGreatDoorJoW
import Derived.Test.YtnmfcckahglbbaaGreatDoorNamed
namespace Go.Proofs.YtnmfcckahglbbaaGreatDoor
open Go.ChangeShapes Go.WideShapes Go.ChangeAt Go.RowKit
set_option linter.unusedVariables false
attribute [local go_sem] eqGuard_errV_nil eqGuard_errV_iface eql_errV_nil neq_errV_nil eql_errV_form

/-- The text of a class's type. -/
def clsT (n : List UInt8) : List UInt8 := 76 :: (n ++ [59])
theorem cls_text (n : List UInt8) : (KindD.cls 0 n).text = clsT n := rfl
theorem bs_clsT (n : List UInt8) : (⟨#[76]⟩ : ByteArray) ++ bs n ++ (⟨#[59]⟩ : ByteArray) = bs (clsT n) := by
  rw [bs_cons, bs_snoc]
  rfl
theorem cls_ok {l : List ClassD} (hJ : Joined l) {n : List UInt8} (h : knownB l n = true) : (KindD.cls 0 n).ok := ⟨by decide, known_name hJ h⟩
theorem supers_facts {l : List ClassD} {q : Nat} (hq : WorldIs l q) {a b k : List UInt8} (hk : kindsQ l q (clsT a) (clsT b) = 0 → JoinT l (clsT a) (clsT b) k) (h1 : namedQ l q a = 0) (h2 : namedQ l q b = 0) :
    Valid l ∧ q = 0 ∧ knownB l a = true ∧ knownB l b = true ∧ kindsQ l q (clsT a) (clsT b) = 0 ∧ k = clsT (joinC l a b) := by
  obtain ⟨hq0, ka⟩ := namedQ_zero.1 h1
  obtain ⟨-, kb⟩ := namedQ_zero.1 h2
  have hV : Valid l := worldIs_zero (by rw [hq0] at hq; exact hq)
  have oa := cls_ok hV.1 ka
  have ob := cls_ok hV.1 kb
  have h0 : kindsQ l q (clsT a) (clsT b) = 0 := kindsQ_zero.2 ⟨hq0, (there_iff oa).2 ka, (there_iff ob).2 kb⟩
  refine ⟨hV, hq0, ka, kb, h0, ?_⟩
  rw [(joinT_iff oa ob).1 (hk h0)]
  by_cases e : a = b
  · subst e
    rw [joinK_self]
    obtain ⟨j1, j2, j3⟩ := joinC_is hV ka ka
    rw [← sup_anti hV ka j1 (j3 a (sup_self hV ka) (sup_self hV ka))]
    rfl
  · unfold joinK
    rw [if_neg (fun h => e (by cases h; rfl))]
    rfl
theorem known_size_ {l : List ClassD} (hu : ∀ c ∈ l, c.upto 140737488351232) {y : List UInt8} (h : knownB l y = true) : y.length ≤ 140737488351232 := by
  have := known_iff.1 h
  unfold namesL at this
  rcases List.mem_cons.1 this with rfl | h
  · decide
  · rcases List.mem_cons.1 h with rfl | h
    · decide
    · obtain ⟨c, hc, rfl⟩ := List.mem_map.1 h
      exact (hu c hc).1
set_option maxRecDepth 20000 in
set_option maxHeartbeats 8000000 in
theorem joinSupers_walk (KJ : JoinJoins) (KS : WorldSupers) (l : List ClassD) (a b : List UInt8) (A : Option Addr) (n c : Nat) (w : World) (T : Tab w) (R : ClassRow w A n c l) (NA : A = none → n = 0 ∧ c = 0) (hu : ∀ x ∈ l, x.upto 140737488351232) (hw : ∀ x ∈ l, x.wf) (hn : n ≤ 140737488351232)
    (ha : a.length ≤ 140737488351232) (hb : b.length ≤ 140737488351232) :
    Calls Tryz.prog 6 #[.slice A n c, .string (bs a), .string (bs b)] w fun e w' => e = .returned (.bool true) ∧ Below w.heap.size w w' := by
  obtain ⟨q, hq⟩ := world_is l
  obtain ⟨k, hk, nk⟩ := join_ex l q (clsT a) (clsT b)
  have hs := supers_facts hq hk
  have hsa : (bs a).size ≤ 140737488351232 := by rw [bs_size]; exact ha
  have hsb : (bs b).size ≤ 140737488351232 := by rw [bs_size]; exact hb
  have hlen : ∀ x : List UInt8, x.length ≤ 140737488351232 → (clsT x).length ≤ 140737488355328 := fun x hx => by unfold clsT; simp; omega
  have HN := Lib.hid (named_any)
  have h1 := fun W T R => KS l q a A n c W hq T R NA hu hw hn ha
  have h2 := fun W T R => KS l q b A n c W hq T R NA hu hw hn hb
  have h3 := fun W T R => KJ l q (clsT a) (clsT b) k A n c W hq hk nk T R NA hu hw hn (hlen a ha) (hlen b hb)
  rw [← bs_clsT a, ← bs_clsT b] at h3
  have H3 := Lib.hid h3
  have HT := Lib.hid T
  have HR := Lib.hid R
  by_cases hz : namedQ l q a = 0 ∧ namedQ l q b = 0
  · obtain ⟨hV, hq0, ka, kb, kq, rfl⟩ := hs hz.1 hz.2
    obtain ⟨j1, j2, j3⟩ := joinC_is hV ka kb
    have kj := sup_known hV ka j1
    have H1 := Lib.hid (fun W T R => (h1 W T R).mono fun _ _ h => lists_ok hz.1 h)
    have H2 := Lib.hid (fun W T R => (h2 W T R).mono fun _ _ h => lists_ok hz.2 h)
    have hzj : namedQ l q (joinC l a b) = 0 := namedQ_zero.2 ⟨hq0, kj⟩
    have H4 := Lib.hid (fun W T R => (KS l q (joinC l a b) A n c W hq T R NA hu hw hn (known_size_ hu kj)).mono fun _ _ h => lists_ok hzj h)
    have H5 := Lib.hid (fun w => rclassIn_any (.cls 0 (joinC l a b)) (cls_ok hV.1 kj) rfl w)
    rw [show (KindD.cls 0 (joinC l a b)).name = joinC l a b from rfl, cls_text] at H5
    have HOa := Lib.hid (fun W R => rclassOf_any l a A n c W R hn)
    have HOb := Lib.hid (fun W R => rclassOf_any l b A n c W R hn)
    have hsa1 := fun s (h : Chain l a s) => (sup_chain hV ka).one h
    have hsb1 := fun s (h : Chain l b s) => (sup_chain hV kb).one h
    have hsj1 := fun s (h : Chain l (joinC l a b) s) => (sup_chain hV kj).one h
    have hfc := fun hne h => joinC_face hV ka kb hne h
    have hfa0 := faceB_D l a
    have hfb0 := faceB_D l b
    have J1 := Lib.hid (any_mem.2 j1)
    have J2 := Lib.hid (any_mem.2 j2)
    have J3 := Lib.hid j3
    rw [kq] at H3
    have hcase : ((faceB l a = true ∨ faceB l b = true) ∧ (((bs (clsT (joinC l a b))).toList == [76, 79, 98, 106, 101, 99, 116, 59]) = true ∨ ((bs (clsT (joinC l a b))).toList == [76, 79, 98, 106, 101, 99, 116, 59]) = false ∧ ((bs a).toList == (bs b).toList) = true)) ∨ (faceB l a = false ∧ faceB l b = false) := by
      by_cases hf : faceB l a = true ∨ faceB l b = true
      · refine .inl ⟨hf, ?_⟩
        by_cases e : a = b
        · cases h : ((bs (clsT (joinC l a b))).toList == [76, 79, 98, 106, 101, 99, 116, 59]) with
          | true => exact .inl rfl
          | false => exact .inr ⟨rfl, by rw [e]; simp⟩
        · rw [hfc e hf]
          exact .inl (lst_yes rfl)
      · refine .inr ⟨?_, ?_⟩
        · cases h : faceB l a <;> simp_all
        · cases h : faceB l b <;> simp_all
    clear hfc hs h1 h2 h3 hlen hV hq0 ka kb kq j1 j2 j3 kj hzj hz hk nk hq KJ KS T R NA hu hw ha hb
    obtain ⟨S1, hS1⟩ : ∃ S1, S1 = supF l a := ⟨_, rfl⟩
    obtain ⟨S2, hS2⟩ : ∃ S2, S2 = supF l b := ⟨_, rfl⟩
    obtain ⟨S3, hS3⟩ : ∃ S3, S3 = supF l (joinC l a b) := ⟨_, rfl⟩
    rw [← hS1] at hsa1 J1 J3
    rw [← hS2] at hsb1 J2 J3
    rw [← hS3] at hsj1 J3
    have HSa := Lib.hid hsa1
    have HSb := Lib.hid hsb1
    have HSj := Lib.hid hsj1
    clear hS1 hS2 hS3 hsa1 hsb1 hsj1
    generalize joinC l a b = j at *
    rcases hcase with ⟨hf, hres⟩ | ⟨hf1, hf2⟩
    · rcases (show faceB l a = true ∨ (faceB l a = false ∧ faceB l b = true) by cases h : faceB l a <;> simp_all) with hf1 | ⟨hf1, hf2⟩
      · have hfa : (classD l a).face = true := hfa0.symm.trans hf1
        have hfb : (classD l b).face = faceB l b := hfb0.symm
        clear hf hf1 hfa0 hfb0
        generalize faceB l b = fb at *
        rcases hres with e1 | ⟨e1, e2⟩
        all_goals
          go_enter Tryz.func6, Tryz.ntmps6
          go_wp2_with (first
            | (go_at_call 14; (with_reducible refine (HN.out _).mono ?_); rintro e w0 ⟨rfl, rfl⟩)
            | (go_at_call 15; (with_reducible refine (H1.out _ HT.out HR.out).mono ?_); rintro e w1 ⟨A1, s1, c1, rfl, ho, hch, hl13, hb⟩
               obtain rfl := HSa.out _ hch
               have L1a := Lib.hid ho.row
               have HB1 := Lib.hid hb
               clear hb ho hch)
            | (go_at_call 15; (with_reducible refine (H2.out _ (HT.out.below HB1.out) (ClassRow.below HR.out HB1.out)).mono ?_); rintro e w2 ⟨A2, s2, c2, rfl, ho, hch, hl23, hb⟩
               obtain rfl := HSb.out _ hch
               have L1b := Lib.hid (L1a.out.below hb)
               have L2b := Lib.hid ho.row
               have HB2 := Lib.hid (bnext HB1.out hb)
               clear hb ho hch)
            | (go_at_call 9; (with_reducible refine (H3.out _ (HT.out.below HB2.out) (ClassRow.below HR.out HB2.out)).mono ?_); rintro e w3 ⟨rfl, hb⟩
               have L1c := Lib.hid (L1b.out.below hb)
               have L2c := Lib.hid (L2b.out.below hb)
               have HB3 := Lib.hid (bnext HB2.out hb)
               clear hb)
            | (go_at_call 16; (with_reducible refine (HOa.out _ (ClassRow.below HR.out HB3.out)).mono ?_); rintro e w4 ⟨v4, rfl, hh, hb⟩
               obtain ⟨pA, pi, pj, pB, pk, pl, pC, pm, pn, hv, _⟩ := hh
               rw [hfa] at hv
               subst hv
               have k3 := World.cell?_alloc_mark w4 #[.string (bs (classD l a).nm), .string (bs (classD l a).su), .slice pA pi pj, .bool true, .slice pB pk pl, .slice pC pm pn] 42 (0, 0) 3
               have K3 := Lib.hid k3
               have L1d := Lib.hid ((L1c.out.below hb).below (al1 w4 (.cells #[.string (bs (classD l a).nm), .string (bs (classD l a).su), .slice pA pi pj, .bool true, .slice pB pk pl, .slice pC pm pn] 42)))
               have L2d := Lib.hid ((L2c.out.below hb).below (al1 w4 (.cells #[.string (bs (classD l a).nm), .string (bs (classD l a).su), .slice pA pi pj, .bool true, .slice pB pk pl, .slice pC pm pn] 42)))
               have HB4 := Lib.hid ((bnext HB3.out hb).alloc (bnext HB3.out hb).size (.cells #[.string (bs (classD l a).nm), .string (bs (classD l a).su), .slice pA pi pj, .bool true, .slice pB pk pl, .slice pC pm pn] 42))
               clear hb k3)
            | (go_at_call 16; (with_reducible refine (HOb.out _ (ClassRow.below HR.out HB4.out)).mono ?_); rintro e w5 ⟨v5, rfl, hh, hb⟩
               obtain ⟨rA, ri, rj, rB, rk, rl, rC, rm, rn, hv, _⟩ := hh
               rw [hfb] at hv
               subst hv
               have hz5 : w4.heap.size < w5.heap.size := by have := hb.size; simp at this; omega
               have hne5 : w4.heap.size ≠ w5.heap.size := by omega
               have d3 := (hb.cell (p := ⟨w4.heap.size, 3, none⟩) (by simp)).trans K3.out
               have L1e := Lib.hid ((L1d.out.below hb).below (al1 w5 (.cells #[.string (bs (classD l b).nm), .string (bs (classD l b).su), .slice rA ri rj, .bool fb, .slice rB rk rl, .slice rC rm rn] 42)))
               have L2e := Lib.hid ((L2d.out.below hb).below (al1 w5 (.cells #[.string (bs (classD l b).nm), .string (bs (classD l b).su), .slice rA ri rj, .bool fb, .slice rB rk rl, .slice rC rm rn] 42)))
               have HB5 := Lib.hid ((bnext HB4.out hb).alloc (bnext HB4.out hb).size (.cells #[.string (bs (classD l b).nm), .string (bs (classD l b).su), .slice rA ri rj, .bool fb, .slice rB rk rl, .slice rC rm rn] 42))
               clear hb))
          go_ret
          exact ⟨rfl, HB5.out⟩
      · have hfa : (classD l a).face = false := hfa0.symm.trans hf1
        have hfb : (classD l b).face = true := hfb0.symm.trans hf2
        clear hf hf1 hf2 hfa0 hfb0
        rcases hres with e1 | ⟨e1, e2⟩
        all_goals
          go_enter Tryz.func6, Tryz.ntmps6
          go_wp2_with (first
            | (go_at_call 14; (with_reducible refine (HN.out _).mono ?_); rintro e w0 ⟨rfl, rfl⟩)
            | (go_at_call 15; (with_reducible refine (H1.out _ HT.out HR.out).mono ?_); rintro e w1 ⟨A1, s1, c1, rfl, ho, hch, hl13, hb⟩
               obtain rfl := HSa.out _ hch
               have L1a := Lib.hid ho.row
               have HB1 := Lib.hid hb
               clear hb ho hch)
            | (go_at_call 15; (with_reducible refine (H2.out _ (HT.out.below HB1.out) (ClassRow.below HR.out HB1.out)).mono ?_); rintro e w2 ⟨A2, s2, c2, rfl, ho, hch, hl23, hb⟩
               obtain rfl := HSb.out _ hch
               have L1b := Lib.hid (L1a.out.below hb)
               have L2b := Lib.hid ho.row
               have HB2 := Lib.hid (bnext HB1.out hb)
               clear hb ho hch)
            | (go_at_call 9; (with_reducible refine (H3.out _ (HT.out.below HB2.out) (ClassRow.below HR.out HB2.out)).mono ?_); rintro e w3 ⟨rfl, hb⟩
               have L1c := Lib.hid (L1b.out.below hb)
               have L2c := Lib.hid (L2b.out.below hb)
               have HB3 := Lib.hid (bnext HB2.out hb)
               clear hb)
            | (go_at_call 16; (with_reducible refine (HOa.out _ (ClassRow.below HR.out HB3.out)).mono ?_); rintro e w4 ⟨v4, rfl, hh, hb⟩
               obtain ⟨pA, pi, pj, pB, pk, pl, pC, pm, pn, hv, _⟩ := hh
               rw [hfa] at hv
               subst hv
               have k3 := World.cell?_alloc_mark w4 #[.string (bs (classD l a).nm), .string (bs (classD l a).su), .slice pA pi pj, .bool false, .slice pB pk pl, .slice pC pm pn] 42 (0, 0) 3
               have K3 := Lib.hid k3
               have L1d := Lib.hid ((L1c.out.below hb).below (al1 w4 (.cells #[.string (bs (classD l a).nm), .string (bs (classD l a).su), .slice pA pi pj, .bool false, .slice pB pk pl, .slice pC pm pn] 42)))
               have L2d := Lib.hid ((L2c.out.below hb).below (al1 w4 (.cells #[.string (bs (classD l a).nm), .string (bs (classD l a).su), .slice pA pi pj, .bool false, .slice pB pk pl, .slice pC pm pn] 42)))
               have HB4 := Lib.hid ((bnext HB3.out hb).alloc (bnext HB3.out hb).size (.cells #[.string (bs (classD l a).nm), .string (bs (classD l a).su), .slice pA pi pj, .bool false, .slice pB pk pl, .slice pC pm pn] 42))
               clear hb k3)
            | (go_at_call 16; (with_reducible refine (HOb.out _ (ClassRow.below HR.out HB4.out)).mono ?_); rintro e w5 ⟨v5, rfl, hh, hb⟩
               obtain ⟨rA, ri, rj, rB, rk, rl, rC, rm, rn, hv, _⟩ := hh
               rw [hfb] at hv
               subst hv
               have hz5 : w4.heap.size < w5.heap.size := by have := hb.size; simp at this; omega
               have hne5 : w4.heap.size ≠ w5.heap.size := by omega
               have d3 := (hb.cell (p := ⟨w4.heap.size, 3, none⟩) (by simp)).trans K3.out
               have L1e := Lib.hid ((L1d.out.below hb).below (al1 w5 (.cells #[.string (bs (classD l b).nm), .string (bs (classD l b).su), .slice rA ri rj, .bool true, .slice rB rk rl, .slice rC rm rn] 42)))
               have L2e := Lib.hid ((L2d.out.below hb).below (al1 w5 (.cells #[.string (bs (classD l b).nm), .string (bs (classD l b).su), .slice rA ri rj, .bool true, .slice rB rk rl, .slice rC rm rn] 42)))
               have HB5 := Lib.hid ((bnext HB4.out hb).alloc (bnext HB4.out hb).size (.cells #[.string (bs (classD l b).nm), .string (bs (classD l b).su), .slice rA ri rj, .bool true, .slice rB rk rl, .slice rC rm rn] 42))
               clear hb))
          go_ret
          exact ⟨rfl, HB5.out⟩
    · have hfa : (classD l a).face = false := hfa0.symm.trans hf1
      have hfb : (classD l b).face = false := hfb0.symm.trans hf2
      clear hf1 hf2 hfa0 hfb0
      go_enter Tryz.func6, Tryz.ntmps6
      go_wp2_with (first
        | (go_at_call 14; (with_reducible refine (HN.out _).mono ?_); rintro e w0 ⟨rfl, rfl⟩)
        | (go_at_call 15; (with_reducible refine (H1.out _ HT.out HR.out).mono ?_); rintro e w1 ⟨A1, s1, c1, rfl, ho, hch, hl13, hb⟩
           obtain rfl := HSa.out _ hch
           have L1a := Lib.hid ho.row
           have HB1 := Lib.hid hb
           clear hb ho hch)
        | (go_at_call 15; (with_reducible refine (H2.out _ (HT.out.below HB1.out) (ClassRow.below HR.out HB1.out)).mono ?_); rintro e w2 ⟨A2, s2, c2, rfl, ho, hch, hl23, hb⟩
           obtain rfl := HSb.out _ hch
           have L1b := Lib.hid (L1a.out.below hb)
           have L2b := Lib.hid ho.row
           have HB2 := Lib.hid (bnext HB1.out hb)
           clear hb ho hch)
        | (go_at_call 9; (with_reducible refine (H3.out _ (HT.out.below HB2.out) (ClassRow.below HR.out HB2.out)).mono ?_); rintro e w3 ⟨rfl, hb⟩
           have L1c := Lib.hid (L1b.out.below hb)
           have L2c := Lib.hid (L2b.out.below hb)
           have HB3 := Lib.hid (bnext HB2.out hb)
           clear hb)
        | (go_at_call 16; (with_reducible refine (HOa.out _ (ClassRow.below HR.out HB3.out)).mono ?_); rintro e w4 ⟨v4, rfl, hh, hb⟩
           obtain ⟨pA, pi, pj, pB, pk, pl, pC, pm, pn, hv, _⟩ := hh
           rw [hfa] at hv
           subst hv
           have k3 := World.cell?_alloc_mark w4 #[.string (bs (classD l a).nm), .string (bs (classD l a).su), .slice pA pi pj, .bool false, .slice pB pk pl, .slice pC pm pn] 42 (0, 0) 3
           have K3 := Lib.hid k3
           have L1d := Lib.hid ((L1c.out.below hb).below (al1 w4 (.cells #[.string (bs (classD l a).nm), .string (bs (classD l a).su), .slice pA pi pj, .bool false, .slice pB pk pl, .slice pC pm pn] 42)))
           have L2d := Lib.hid ((L2c.out.below hb).below (al1 w4 (.cells #[.string (bs (classD l a).nm), .string (bs (classD l a).su), .slice pA pi pj, .bool false, .slice pB pk pl, .slice pC pm pn] 42)))
           have HB4 := Lib.hid ((bnext HB3.out hb).alloc (bnext HB3.out hb).size (.cells #[.string (bs (classD l a).nm), .string (bs (classD l a).su), .slice pA pi pj, .bool false, .slice pB pk pl, .slice pC pm pn] 42))
           clear hb k3)
        | (go_at_call 16; (with_reducible refine (HOb.out _ (ClassRow.below HR.out HB4.out)).mono ?_); rintro e w5 ⟨v5, rfl, hh, hb⟩
           obtain ⟨rA, ri, rj, rB, rk, rl, rC, rm, rn, hv, _⟩ := hh
           rw [hfb] at hv
           subst hv
           have hz5 : w4.heap.size < w5.heap.size := by have := hb.size; simp at this; omega
           have hne5 : w4.heap.size ≠ w5.heap.size := by omega
           have d3 := (hb.cell (p := ⟨w4.heap.size, 3, none⟩) (by simp)).trans K3.out
           have L1e := Lib.hid ((L1d.out.below hb).below (al1 w5 (.cells #[.string (bs (classD l b).nm), .string (bs (classD l b).su), .slice rA ri rj, .bool false, .slice rB rk rl, .slice rC rm rn] 42)))
           have L2e := Lib.hid ((L2d.out.below hb).below (al1 w5 (.cells #[.string (bs (classD l b).nm), .string (bs (classD l b).su), .slice rA ri rj, .bool false, .slice rB rk rl, .slice rC rm rn] 42)))
           have HB5 := Lib.hid ((bnext HB4.out hb).alloc (bnext HB4.out hb).size (.cells #[.string (bs (classD l b).nm), .string (bs (classD l b).su), .slice rA ri rj, .bool false, .slice rB rk rl, .slice rC rm rn] 42))
           clear hb)
        | (go_at_call 17; (with_reducible refine (H5.out _).mono ?_); rintro e w9 ⟨rfl, rfl⟩)
        | (go_at_call 15; (with_reducible refine (H4.out _ (HT.out.below HB5.out) (ClassRow.below HR.out HB5.out)).mono ?_); rintro e w6 ⟨A3, s3, c3, rfl, ho, hch, hl33, hb⟩
           obtain rfl := HSj.out _ hch
           have L1f := Lib.hid (L1e.out.below hb)
           have L2f := Lib.hid (L2e.out.below hb)
           have L3f := Lib.hid ho.row
           have HB6 := Lib.hid (bnext HB5.out hb)
           clear hb ho hch))
      go_loop [21] (fun i => ∃ t : Nat, t ≤ S1.length ∧ i = .int .i64 t) (fun i => S1.length - (intOf i).toNat)
      case atStart => exact ⟨0, Nat.zero_le _, rfl⟩
      case round =>
        obtain ⟨t, ht, rfl⟩ := hrel
        by_cases hlt : t < S1.length
        · obtain ⟨b1, o1, rfl, hb1, hx1⟩ := SRow.at_ L1f.out hlt
          rw [Nat.mul_one] at hx1
          unfold StrAt at hx1
          have hin2 := rin_any A2 S2.length c2 S2 S1[t] w6 L2f.out (by omega)
          have hin3 := rin_any A3 S3.length c3 S3 S1[t] w6 L3f.out (by omega)
          have hj3 : S2.any (· == S1[t]) = true → S3.any (· == S1[t]) = true := fun h => any_mem.2 (J3.out _ (List.getElem_mem hlt) (any_mem.1 h))
          generalize S1[t] = z at *
          cases h2 : S2.any (· == z) with
          | false =>
            rw [h2] at hin2
            have HI2 := Lib.hid hin2
            clear hin2 hin3 hj3 h2
            go_wp2_with (first
              | (go_at_call 18; (with_reducible refine HI2.out.mono ?_); rintro e w9 ⟨rfl, rfl⟩))
            go_round
            case rel => exact ⟨t + 1, by omega, by go_num⟩
            case measure => first | (simp [intOf]; omega) | simp [intOf]
          | true =>
            rw [h2] at hin2
            rw [hj3 h2] at hin3
            have HI2 := Lib.hid hin2
            have HI3 := Lib.hid hin3
            clear hin2 hin3 hj3 h2
            go_wp2_with (first
              | (go_at_call 18; (with_reducible refine HI2.out.mono ?_); rintro e w9 ⟨rfl, rfl⟩)
              | (go_at_call 18; (with_reducible refine HI3.out.mono ?_); rintro e w9 ⟨rfl, rfl⟩))
            go_round
            case rel => exact ⟨t + 1, by omega, by go_num⟩
            case measure => first | (simp [intOf]; omega) | simp [intOf]
        · obtain rfl : t = S1.length := by omega
          have hi1 := rin_any A1 S1.length c1 S1 j w6 L1f.out (by omega)
          have hi2 := rin_any A2 S2.length c2 S2 j w6 L2f.out (by omega)
          rw [J1.out] at hi1
          rw [J2.out] at hi2
          have HI1 := Lib.hid hi1
          have HI2 := Lib.hid hi2
          clear hi1 hi2
          go_wp2_with (first
            | (go_at_call 18; (with_reducible refine HI1.out.mono ?_); rintro e w9 ⟨rfl, rfl⟩)
            | (go_at_call 18; (with_reducible refine HI2.out.mono ?_); rintro e w9 ⟨rfl, rfl⟩))
          go_ret
          exact ⟨rfl, HB6.out⟩
  · have H1 := Lib.hid h1
    have H2 := Lib.hid h2
    clear hs h1 h2 h3 hlen hk nk hq KJ KS T R NA hu hw ha hb
    generalize kindsQ l q (clsT a) (clsT b) = q3 at *
    rcases (show namedQ l q a ≠ 0 ∨ (namedQ l q a = 0 ∧ namedQ l q b ≠ 0) by omega) with h | ⟨h0, h⟩
    · have hne := bne_iff_ne.2 h
      clear h hz
      generalize namedQ l q a = q1 at *
      go_enter Tryz.func6, Tryz.ntmps6
      go_wp2_with (first
        | (go_at_call 14; (with_reducible refine (HN.out _).mono ?_); rintro e w0 ⟨rfl, rfl⟩)
        | (go_at_call 15; (with_reducible refine (H1.out _ HT.out HR.out).mono ?_); rintro e w1 ⟨v1, s1, rfl, _, _, _, _, hb⟩
           have HB1 := Lib.hid hb
           clear hb)
        | (go_at_call 15; (with_reducible refine (H2.out _ (HT.out.below HB1.out) (ClassRow.below HR.out HB1.out)).mono ?_); rintro e w2 ⟨v2, s2, rfl, _, _, _, _, hb⟩
           have HB2 := Lib.hid (bnext HB1.out hb)
           clear hb)
        | (go_at_call 9; (with_reducible refine (H3.out _ (HT.out.below HB2.out) (ClassRow.below HR.out HB2.out)).mono ?_); rintro e w3 ⟨rfl, hb⟩
           have HB3 := Lib.hid (bnext HB2.out hb)
           clear hb))
      go_ret
      exact ⟨rfl, HB3.out⟩
    · have hne := bne_iff_ne.2 h
      rw [h0] at H1
      clear h hz
      generalize namedQ l q b = q2 at *
      go_enter Tryz.func6, Tryz.ntmps6
      go_wp2_with (first
        | (go_at_call 14; (with_reducible refine (HN.out _).mono ?_); rintro e w0 ⟨rfl, rfl⟩)
        | (go_at_call 15; (with_reducible refine (H1.out _ HT.out HR.out).mono ?_); rintro e w1 ⟨v1, s1, rfl, _, _, _, _, hb⟩
           have HB1 := Lib.hid hb
           clear hb)
        | (go_at_call 15; (with_reducible refine (H2.out _ (HT.out.below HB1.out) (ClassRow.below HR.out HB1.out)).mono ?_); rintro e w2 ⟨v2, s2, rfl, _, _, _, _, hb⟩
           have HB2 := Lib.hid (bnext HB1.out hb)
           clear hb)
        | (go_at_call 9; (with_reducible refine (H3.out _ (HT.out.below HB2.out) (ClassRow.below HR.out HB2.out)).mono ?_); rintro e w3 ⟨rfl, hb⟩
           have HB3 := Lib.hid (bnext HB2.out hb)
           clear hb))
      go_ret
      exact ⟨rfl, HB3.out⟩
end Go.Proofs.YtnmfcckahglbbaaGreatDoor
