/- The walk of coffeehouselaw6.ClassTwice, from what class.Check says. -/
import Derived.Deep.DeepCutAuto
import Derived.Test.YtkabkpkfglngnaaDoorClP
import Derived.Test.YtkabkpkfglngnaaDoorClX
import Derived.Test.YtkabkpkfglngnaaDoorNamed
namespace Go.Proofs.YtkabkpkfglngnaaDoor
open Go.ChangeShapes Go.WideShapes Go.ChangeAt Go.RowKit
set_option linter.unusedVariables false
set_option linter.unusedSimpArgs false
attribute [local go_sem] eqGuard_errV_nil eqGuard_errV_iface eql_errV_nil neq_errV_nil eql_errV_form

theorem neq_five (w : World) : (binOp .neq 30 (errV 5) (.iface 32 (.int .i64 5))).run Tryd.prog w = .ok (.bool false) w := by
  rw [show errV 5 = .iface 32 (.int .i64 5) from rfl, Lib.run_neq_iface_int w 5 5 Tryd.underlying30 errno_cmp Tryd.underlying32]
  rfl
theorem eql_five (w : World) : (binOp .eql 30 (errV 5) (.iface 32 (.int .i64 5))).run Tryd.prog w = .ok (.bool true) w := eql_errV_iface 5 5 w (by decide)
attribute [local go_sem] neq_five eql_five
theorem conv_uint (n : Int) (W : World) : (convert 3 37 (.int .i64 n)).run Tryd.prog W = .ok (.int .u64 (IntKind.u64.wrap n)) W := by
  rw [run_convert_int (P := Tryd.prog) (w := W)]
  all_goals first | kernel_rfl | skip
theorem rem_uint (u : Int) (k t : Nat) (hk : 0 < k) (ht : u.tmod (k : Int) = (t : Int)) (W : World) : (binOp .rem 37 (.int .u64 u) (.int .u64 (k : Int))).run Tryd.prog W = .ok (.int .u64 (t : Int)) W := by
  simp [binOp, Op.intDiv, ht]
  intro h
  omega
theorem pick_at (i : Int) (k : Nat) (hk : 0 < k) : ∃ t : Nat, t < k ∧ (IntKind.u64.wrap i).tmod (k : Int) = (t : Int) := by
  have h0 : 0 ≤ IntKind.u64.wrap i := by rw [IntKind.wrap_u64]; omega
  refine ⟨((IntKind.u64.wrap i).tmod (k : Int)).toNat, ?_, ?_⟩
  · rw [Int.tmod_eq_emod_of_nonneg h0]
    have := Int.emod_lt_of_pos (IntKind.u64.wrap i) (show (0 : Int) < k by omega)
    have := Int.emod_nonneg (IntKind.u64.wrap i) (show (k : Int) ≠ 0 by omega)
    omega
  · rw [Int.tmod_eq_emod_of_nonneg h0]
    have := Int.emod_nonneg (IntKind.u64.wrap i) (show (k : Int) ≠ 0 by omega)
    omega
theorem wrap_small_u (k : Nat) (h : k ≤ 1048576) : IntKind.u64.wrap (k : Int) = (k : Int) := by rw [IntKind.wrap_u64]; omega

theorem field_info : (Tryd.prog.info? 36).map (fun i => (i.zero, i.size, i.bytes)) = some (some (.agg #[.string ⟨#[]⟩, .string ⟨#[]⟩]), 2, 32) := by kernel_rfl
theorem str_info2 : (Tryd.prog.info? 9).map (fun i => (i.zero, i.size, i.bytes)) = some (some (.string ⟨#[]⟩), 1, 16) := by kernel_rfl
theorem meth_info : (Tryd.prog.info? 41).map (fun i => (i.zero, i.size, i.bytes)) = some (some (.agg #[.string ⟨#[]⟩, .string ⟨#[]⟩, .bool false, .bool false, .bool false, .int .i64 0, .slice none 0 0, .slice none 0 0]), 8, 96) := by kernel_rfl
theorem frozen_new (w : World) (C : Array Value) (t : TypeId) (j : Nat) : (w.alloc (.cells C t)).frozen? ⟨w.heap.size, j, none⟩ = false := by
  have h : (w.alloc (.cells C t)).heap[w.heap.size]? = some (.cells C t (0, 0)) := by
    show (w.heap.push (.cells C t))[w.heap.size]? = _
    simp
  unfold World.frozen?
  rw [h]
  show (decide (0 ≤ j) && decide (j < 0)) = false
  simp
theorem al2c (w : World) (o p : Obj) : Below w.heap.size w ((w.alloc o).alloc p) := (al1 w o).alloc (al1 w o).size p
theorem own_ne {w : World} {base N c k : Nat} {e : TypeId} {A : Option Addr} {cs : List Value} (h : w.ownsRow base e k (.slice A N c) N cs) (h0 : 0 < N) : A = none → N = 0 ∧ c = 0 := fun ha => by
  rcases h.2 with ⟨_, h1⟩ | ⟨g, cap, cur, hv, _⟩
  · omega
  · rw [ha] at hv; cases hv
theorem field_one (w : World) (yn yt : List UInt8) : CellsOf FieldAt 2 w [⟨yn, yt⟩] [.string (bs yn), .string (bs yt)] := CellsOf.one rfl (by simp [Value.oneCell']) fun _ hc => ⟨hc 0 _ rfl, hc 1 _ rfl⟩
theorem str_one2 (w : World) (y : List UInt8) : CellsOf StrAt 1 w [y] [.string (bs y)] := CellsOf.one rfl (by simp [Value.oneCell']) fun _ hc => hc 0 _ rfl
def EightAt (w : World) (b o : Nat) (v0 v1 v2 v3 v4 v5 v6 v7 : Value) : Prop :=
  w.cell? ⟨b, o, none⟩ = some v0 ∧ w.cell? ⟨b, o + 1, none⟩ = some v1 ∧ w.cell? ⟨b, o + 2, none⟩ = some v2 ∧ w.cell? ⟨b, o + 3, none⟩ = some v3 ∧ w.cell? ⟨b, o + 4, none⟩ = some v4 ∧ w.cell? ⟨b, o + 5, none⟩ = some v5 ∧ w.cell? ⟨b, o + 6, none⟩ = some v6 ∧ w.cell? ⟨b, o + 7, none⟩ = some v7
theorem eight_stays {w w' : World} {b o : Nat} {v0 v1 v2 v3 v4 v5 v6 v7 : Value} (h : EightAt w b o v0 v1 v2 v3 v4 v5 v6 v7) (hb : b < w.heap.size) (hB : Below w.heap.size w w') : EightAt w' b o v0 v1 v2 v3 v4 v5 v6 v7 :=
  ⟨(hB.cell (by exact hb)).trans h.1, (hB.cell (by exact hb)).trans h.2.1, (hB.cell (by exact hb)).trans h.2.2.1, (hB.cell (by exact hb)).trans h.2.2.2.1, (hB.cell (by exact hb)).trans h.2.2.2.2.1, (hB.cell (by exact hb)).trans h.2.2.2.2.2.1, (hB.cell (by exact hb)).trans h.2.2.2.2.2.2.1, (hB.cell (by exact hb)).trans h.2.2.2.2.2.2.2⟩
theorem meth_one2 (w : World) (yn yt : List UInt8) (ys ya yp : Bool) (yl : Int) {yc : List InsD} {yh : List HandD} {E1 E2 : Option Addr} {en ec fn fc : Nat} (r1 : InsRow w E1 en ec yc) (n1 : E1 = none → en = 0 ∧ ec = 0) (r2 : HandRow w E2 fn fc yh) (n2 : E2 = none → fn = 0 ∧ fc = 0) :
    CellsOf MethAt 8 w [⟨yn, yt, ys, ya, yp, yl, yc, yh⟩] [.string (bs yn), .string (bs yt), .bool ys, .bool ya, .bool yp, .int .i64 yl, .slice E1 en ec, .slice E2 fn fc] :=
  CellsOf.one rfl (by simp [Value.oneCell']) fun hb hc => ⟨hc 0 _ rfl, hc 1 _ rfl, hc 2 _ rfl, hc 3 _ rfl, hc 4 _ rfl, hc 5 _ rfl, ⟨_, _, _, hc 6 _ rfl, r1.below hb, n1⟩, ⟨_, _, _, hc 7 _ rfl, r2.below hb, n2⟩⟩
theorem row_grown {α : Type} {At : World → Nat → Nat → α → Prop} {sz : Nat} {w2 V w5 : World} {dd j k : Nat} {e : TypeId} {A : Option Addr} {c : Nat} {l : List α} {cs ys : List Value} {y : α} {v : Value} (h : w5.ownsRow V.heap.size e sz (.slice A (k + 1) c) (k + 1) ([] ++ cs ++ ys)) (hc : CellsOf At sz w2 l cs) (h1 : CellsOf At sz w2 [y] ys) (hl : l.length = k) (hd : dd < V.heap.size)
    (hb : Below w2.heap.size w2 (w5.setCell ⟨dd, j, none⟩ v)) : SRow At sz (w5.setCell ⟨dd, j, none⟩ v) A (k + 1) c (l ++ [y]) :=
  SRow.of_own (At := At) (ownsRow_setCell_below h (a := ⟨dd, j, none⟩) hd v) (hc.append h1) hb (by rw [List.length_append, hl]; rfl)
theorem bset_ {B b j : Nat} {a w : World} {v : Value} (h : Below B a w) (hb : B ≤ b) : Below B a (w.setCell ⟨b, j, none⟩ v) := h.setCell (p := ⟨b, j, none⟩) hb v
theorem size_own {w : World} {b j : Nat} {v : Value} : (w.setCell ⟨b, j, none⟩ v).heap.size = w.heap.size := by simp [World.setCell]
set_option maxRecDepth 20000 in
set_option maxHeartbeats 8000000 in
theorem twice_try (K : ClassChecks) (x : ClassD) (z : Int) (A : Option Addr) (i j : Nat) (B : Option Addr) (k l : Nat) (C : Option Addr) (m n : Nat) (w : World) (T : Tab w) (RA : StrRow w A i j x.faces) (RB : FieldRow w B k l x.fields) (RC : MethRow w C m n x.meths) (hA : A = none → i = 0 ∧ j = 0) (hB : B = none → k = 0 ∧ l = 0) (hC : C = none → m = 0 ∧ n = 0) (hx : x.upto 140737488351232) (hw : x.wf) (h0 : classF x = 0) :
    Calls Tryd.prog 5 #[classV x A i j B k l C m n, .int .i64 z] w fun e w' => e = .returned (.bool true) ∧ Below w.heap.size w w' := by
  have HCk := Lib.hid (fun W T RA RB RC => checks_zero K x A i j B k l C m n W T RA RB RC hA hB hC hx hw h0)
  have HNa := Lib.hid named_any
  have HB0 := Lib.hid (al1 w (.cells #[.string (bs x.nm), .string (bs x.su), .slice A i j, .bool x.face, .slice B k l, .slice C m n] 26))
  have HCB := Lib.hid (cbox_at w x A i j B k l C m n 26 (0, 0))
  have HT := Lib.hid (T.below HB0.out)
  have HRA := Lib.hid (RA.below HB0.out)
  have HRB := Lib.hid (RB.below HB0.out)
  have HRC := Lib.hid (RC.below HB0.out)
  have HK := Lib.hid K
  have Hx := Lib.hid hx
  have Hw := Lib.hid hw
  have H0 := Lib.hid h0
  have HA := Lib.hid hA
  have HN := Lib.hid hB
  have HC := Lib.hid hC
  clear K T RA RB RC hA hB hC hx hw h0
  unfold classV
  go_enter Tryd.func5, Tryd.ntmps5
  go_upto_region 6 with (first
    | (go_at_call 10; (with_reducible refine (HNa.out _).mono ?_); rintro e w1 ⟨rfl, hw1⟩
       subst hw1
       obtain ⟨p0, p1, p2, p3, p4, p5, p6⟩ := HCB.out)
    | (go_at_call 8; (with_reducible refine (HCk.out _ HT.out HRA.out HRB.out HRC.out).mono ?_); rintro e w2 ⟨rfl, hb⟩
       have HB2 := Lib.hid (bnext HB0.out hb)
       have HRA2 := Lib.hid (HRA.out.below hb)
       have HRB2 := Lib.hid (HRB.out.below hb)
       have HRC2 := Lib.hid (HRC.out.below hb)
       have HT2 := Lib.hid (HT.out.below hb)
       have HCB2 := Lib.hid (HCB.out.below hb)
       obtain ⟨q0, q1, q2, q3, q4, q5, q6⟩ := HCB.out.below hb
       clear hb p0 p1 p2 p3 p4 p5 p6))
  go_cut [25] from 9 (fun sc wx => sc = .bool (decide (0 < k ∧ k < 8)) ∧ w2 = wx)
  case first =>
    by_cases hk0 : 0 < k
    · have e1 : decide ((0 : Int) < (k : Int)) = true := decide_eq_true (by omega)
      by_cases hk8 : k < 8
      · have e2 : decide ((k : Int) < (8 : Int)) = true := decide_eq_true (by omega)
        have e3 : (decide (0 < k ∧ k < 8)) = true := decide_eq_true ⟨hk0, hk8⟩
        go_wp2_with fail
        go_meet
        case rel => exact ⟨by rw [e3], rfl⟩
      · have e2 : decide ((k : Int) < (8 : Int)) = false := decide_eq_false (by omega)
        have e3 : (decide (0 < k ∧ k < 8)) = false := decide_eq_false (fun h => hk8 h.2)
        go_wp2_with fail
        go_meet
        case rel => exact ⟨by rw [e3], rfl⟩
    · have e1 : decide ((0 : Int) < (k : Int)) = false := decide_eq_false (by omega)
      have e3 : (decide (0 < k ∧ k < 8)) = false := decide_eq_false (fun h => hk0 h.1)
      go_wp2_with fail
      go_meet
      case rel => exact ⟨by rw [e3], rfl⟩
  obtain ⟨hsc, rfl⟩ := hcut
  subst hsc
  go_upto_if 25 with fail
  go_cut [] from 9 (fun wx => Below w2.heap.size w2 wx)
  case first =>
    by_cases hk : 0 < k ∧ k < 8
    case neg =>
      have e3 : (decide (0 < k ∧ k < 8)) = false := decide_eq_false hk
      rw [e3]
      clear hk
      go_wp2_with fail
      go_meet
      case rel => exact Below.refl _ _
    case pos =>
      have e3 : (decide (0 < k ∧ k < 8)) = true := decide_eq_true hk
      obtain ⟨hk0, hk8⟩ := hk
      rw [e3]
      have hx := Hx.out
      have hw := Hw.out
      have h0 := H0.out
      have hA := HA.out
      have hB := HN.out
      have hC := HC.out
      obtain ⟨t, htk, htm⟩ := pick_at z k hk0
      have hcv := fun W => conv_uint z W
      have hck := fun W => conv_uint (k : Int) W
      rw [wrap_small_u k (by omega)] at hck
      have hrm := fun W => rem_uint (IntKind.u64.wrap z) k t hk0 htm W
      have hlk : x.fields.length = k := HRB2.out.1
      obtain ⟨b1, o1, rfl, hb2, hy1⟩ := SRow.at_ HRB2.out htk
      have hyt : x.fields[t]'(by rw [hlk]; exact htk) ∈ x.fields := List.getElem_mem _
      generalize x.fields[t]'(by rw [hlk]; exact htk) = y at *
      have HD := fun W A' c' T RA RB RC hN => HK.out ⟨x.nm, x.su, x.faces, x.face, x.fields ++ [y], x.meths⟩ A i j A' (k + 1) c' C m n W T RA RB RC hA hN hC
        ⟨hx.1, hx.2.1, hx.2.2.1, ⟨fun y hy => (List.mem_append.1 hy).elim (hx.2.2.2.1.1 y) (fun h => by obtain rfl := List.mem_singleton.1 h; exact hx.2.2.2.1.1 _ hyt), by rw [List.length_append, List.length_singleton]; omega⟩, hx.2.2.2.2⟩ hw
      rw [twice_fields h0 hyt (by omega)] at HD
      unfold classV at HD
      replace HD := Lib.hid HD
      obtain ⟨yn, yt⟩ := y
      have HY := Lib.hid hy1
      have HOne := Lib.hid (field_one w2 yn yt)
      clear hx hw h0 hA hB hC hyt
      go_wp2_with fail
      obtain ⟨cs, hcs, hly⟩ := SRow.cells (At := FieldAt) field_copies HRB2.out
      have hcl := hcs.1
      rw [hlk] at hcl
      have hc1 := hcs.2.1
      have HCS := Lib.hid hcs
      have HBV := Lib.hid (al1 w2 (.cells #[.string (bs x.nm), .string (bs x.su), .slice A i j, .bool x.face, .slice (some ⟨b1, o1, none⟩) k l, .slice C m n] 26))
      have HDB := Lib.hid (cbox_at w2 x A i j (some ⟨b1, o1, none⟩) k l C m n 26 (0, 0))
      have HFZ := Lib.hid (frozen_new w2 #[.string (bs x.nm), .string (bs x.su), .slice A i j, .bool x.face, .slice (some ⟨b1, o1, none⟩) k l, .slice C m n] 26 4)
      have HLY := Lib.hid (hly.below HBV.out)
      have HYV := Lib.hid (field_stays HY.out hb2 HBV.out)
      have HCV := Lib.hid (HCB2.out.below HBV.out)
      clear hcs hly q0 q1 q2 q3 q4 q5 q6
      generalize hV : w2.alloc (.cells #[.string (bs x.nm), .string (bs x.su), .slice A i j, .bool x.face, .slice (some ⟨b1, o1, none⟩) k l, .slice C m n] 26) = V at *
      replace hV := Lib.hid hV
      obtain ⟨r0, r1, r2, r3, r4, r5, r6⟩ := HCV.out
      obtain ⟨s0, s1, s2, s3, s4, s5, s6⟩ := HDB.out
      obtain ⟨y0, y1⟩ := HYV.out
      simp only at y0 y1
      have hfz := HFZ.out
      have hn1 : w2.heap.size ≠ w.heap.size := Nat.ne_of_gt HCB2.out.1
      have hn2 : w2.heap.size ≠ b1 := Nat.ne_of_gt hb2
      first | go_region_held_law (fun w' => w'.cell? ⟨w.heap.size, 4, none⟩ = some (.slice (some ⟨b1, o1, none⟩) k l) ∧ w'.cell? ⟨b1, o1 + t * 2, none⟩ = some (.string (bs yn)) ∧ w'.cell? ⟨b1, o1 + t * 2 + 1, none⟩ = some (.string (bs yt)))
        (go_keep)
        (first
          | (refine step_rows rfl (.tmp 27) (.tmp 29) 23 36 2 32 _ rfl Tryd.underlying23 field_info rfl (by decide) V.heap.size (.slice (some ⟨V.heap.size, 0, none⟩) 0 0) 0 [] cs k (by simp [Act.eval, Act.put]) (own_drew_ (own_bare V _ 2 _ (Nat.le_refl _))) (some ⟨b1, o1, none⟩) k l (by simp [Act.eval, Act.put]) (by omega) hcl hc1 (HLY.out.below (al1 V (.cells #[] 36 (0, 0)))).drew (fun h => by cases h) (by omega) (by decide) (al1 V (.cells #[] 36 (0, 0))).drew.size ?_
             intro A4 c4 w4 hv4 hb4 hg4
             have HB4 := Lib.hid ((al1 V (.cells #[] 36 (0, 0))).drew.trans hb4)
             have HO4 := Lib.hid hv4
             have HLit := Lib.hid (trivial)
             obtain ⟨r0, r1, r2, r3, r4, r5, r6⟩ := HCV.out.below HB4.out
             obtain ⟨y0, y1⟩ := field_stays HYV.out (Nat.lt_of_lt_of_le hb2 HBV.out.size) HB4.out
             simp only at y0 y1
             have s5' := (HB4.out.cell (p := ⟨w2.heap.size, 4, none⟩) s0).trans s5
             have hfz' := (HB4.out.frozen (p := ⟨w2.heap.size, 4, none⟩) s0).trans hfz
             have hs4 := HB4.out.size
             clear hv4 hb4 hg4)
          | (refine step_rows rfl (.tmp 27) (.tmp 29) 23 36 2 32 _ rfl Tryd.underlying23 field_info rfl (by decide) V.heap.size (.slice (some ⟨V.heap.size, 0, none⟩) 0 0) 0 [] cs k (by simp [Act.eval, Act.put]) (own_drew_ ((own_bare V _ 2 _ (Nat.le_refl _)).alloc (.cells #[.string (bs yn), .string (bs yt)] 36 (0, 0)))) (some ⟨b1, o1, none⟩) k l (by simp [Act.eval, Act.put]) (by omega) hcl hc1 (HLY.out.below (al2c V (.cells #[] 36 (0, 0)) (.cells #[.string (bs yn), .string (bs yt)] 36 (0, 0)))).drew (fun h => by cases h) (by omega) (by decide) (al2c V (.cells #[] 36 (0, 0)) (.cells #[.string (bs yn), .string (bs yt)] 36 (0, 0))).drew.size ?_
             intro A4 c4 w4 hv4 hb4 hg4
             have HB4 := Lib.hid ((al2c V (.cells #[] 36 (0, 0)) (.cells #[.string (bs yn), .string (bs yt)] 36 (0, 0))).drew.trans hb4)
             have HO4 := Lib.hid hv4
             have HLit := Lib.hid ((lies_lit2 V (.cells #[] 36 (0, 0)) #[.string (bs yn), .string (bs yt)] [.string (bs yn), .string (bs yt)] rfl 1 36 (0, 0)).drew.grown hg4 (fun a ha => by obtain rfl := Option.some.inj ha; intro h; have := Option.some.inj h; simp at this))
             obtain ⟨r0, r1, r2, r3, r4, r5, r6⟩ := HCV.out.below HB4.out
             obtain ⟨y0, y1⟩ := field_stays HYV.out (Nat.lt_of_lt_of_le hb2 HBV.out.size) HB4.out
             simp only at y0 y1
             have s5' := (HB4.out.cell (p := ⟨w2.heap.size, 4, none⟩) s0).trans s5
             have hfz' := (HB4.out.frozen (p := ⟨w2.heap.size, 4, none⟩) s0).trans hfz
             have hs4 := HB4.out.size
             clear hv4 hb4 hg4)
          | (refine step_rows rfl (.tmp 27) (.tmp 29) 23 36 2 32 _ rfl Tryd.underlying23 field_info rfl (by decide) V.heap.size (.slice (some ⟨V.heap.size + 1, 0, none⟩) 0 0) 0 [] cs k (by simp [Act.eval, Act.put]) (own_drew_ (own_bare2 V (.cells #[.string (bs yn), .string (bs yt)] 36 (0, 0)) _ 2 _ (Nat.le_refl _))) (some ⟨b1, o1, none⟩) k l (by simp [Act.eval, Act.put]) (by omega) hcl hc1 (HLY.out.below (al2c V (.cells #[.string (bs yn), .string (bs yt)] 36 (0, 0)) (.cells #[] 36 (0, 0)))).drew (fun h => by cases h) (by omega) (by decide) (al2c V (.cells #[.string (bs yn), .string (bs yt)] 36 (0, 0)) (.cells #[] 36 (0, 0))).drew.size ?_
             intro A4 c4 w4 hv4 hb4 hg4
             have HB4 := Lib.hid ((al2c V (.cells #[.string (bs yn), .string (bs yt)] 36 (0, 0)) (.cells #[] 36 (0, 0))).drew.trans hb4)
             have HO4 := Lib.hid hv4
             have HLit := Lib.hid (((lies_lit V #[.string (bs yn), .string (bs yt)] [.string (bs yn), .string (bs yt)] rfl 1 36 (0, 0)).below (al1 _ (.cells #[] 36 (0, 0)))).drew.grown hg4 (fun a ha => by obtain rfl := Option.some.inj ha; intro h; have := Option.some.inj h; simp at this))
             obtain ⟨r0, r1, r2, r3, r4, r5, r6⟩ := HCV.out.below HB4.out
             obtain ⟨y0, y1⟩ := field_stays HYV.out (Nat.lt_of_lt_of_le hb2 HBV.out.size) HB4.out
             simp only at y0 y1
             have s5' := (HB4.out.cell (p := ⟨w2.heap.size, 4, none⟩) s0).trans s5
             have hfz' := (HB4.out.frozen (p := ⟨w2.heap.size, 4, none⟩) s0).trans hfz
             have hs4 := HB4.out.size
             clear hv4 hb4 hg4)
          | (refine step_rows rfl (.tmp 30) (.tmp 42) 23 36 2 32 _ rfl Tryd.underlying23 field_info rfl (by decide) V.heap.size (.slice A4 k c4) k ([] ++ cs) [.string (bs yn), .string (bs yt)] (k + 1) (by simp [Act.eval, Act.put]) (HO4.out.alloc _) _ 1 1 (by simp [Act.eval, Act.put]) rfl rfl (by simp [Value.oneCell']) (lies_lit w4 #[.string (bs yn), .string (bs yt)] [.string (bs yn), .string (bs yt)] rfl 1 36 (0, 0)) (fun h => by cases h) (by omega) (by decide) (Nat.le_trans hs4 (al1 w4 (.cells #[.string (bs yn), .string (bs yt)] 36 (0, 0))).size) ?_
             intro A5 c5 w5 hv5 hb5 hg5
             have HB5 := Lib.hid ((HB4.out.alloc hs4 (.cells #[.string (bs yn), .string (bs yt)] 36 (0, 0))).trans hb5)
             have HO5 := Lib.hid hv5
             obtain ⟨r0, r1, r2, r3, r4, r5, r6⟩ := HCV.out.below HB5.out
             obtain ⟨y0, y1⟩ := field_stays HYV.out (Nat.lt_of_lt_of_le hb2 HBV.out.size) HB5.out
             simp only at y0 y1
             have s5' := (HB5.out.cell (p := ⟨w2.heap.size, 4, none⟩) s0).trans s5
             have hfz' := (HB5.out.frozen (p := ⟨w2.heap.size, 4, none⟩) s0).trans hfz
             obtain ⟨u0, u1, u2, u3, u4, u5, u6⟩ := HDB.out.below HB5.out
             clear hv5 hb5 hg5)
          | (refine step_rows rfl (.tmp 30) (.tmp 42) 23 36 2 32 _ rfl Tryd.underlying23 field_info rfl (by decide) V.heap.size (.slice A4 k c4) k ([] ++ cs) [.string (bs yn), .string (bs yt)] (k + 1) (by simp [Act.eval, Act.put]) HO4.out _ 1 1 (by simp [Act.eval, Act.put]) rfl rfl (by simp [Value.oneCell']) HLit.out (fun h => by cases h) (by omega) (by decide) hs4 ?_
             intro A5 c5 w5 hv5 hb5 hg5
             have HB5 := Lib.hid (HB4.out.trans hb5)
             have HO5 := Lib.hid hv5
             obtain ⟨r0, r1, r2, r3, r4, r5, r6⟩ := HCV.out.below HB5.out
             obtain ⟨y0, y1⟩ := field_stays HYV.out (Nat.lt_of_lt_of_le hb2 HBV.out.size) HB5.out
             simp only at y0 y1
             have s5' := (HB5.out.cell (p := ⟨w2.heap.size, 4, none⟩) s0).trans s5
             have hfz' := (HB5.out.frozen (p := ⟨w2.heap.size, 4, none⟩) s0).trans hfz
             obtain ⟨u0, u1, u2, u3, u4, u5, u6⟩ := HDB.out.below HB5.out
             clear hv5 hb5 hg5)) | fail
      all_goals
        have HBW := Lib.hid (bset_ (v := .slice A5 (k + 1) c5) (j := 4) (bnext HBV.out HB5.out) (Nat.le_refl _))
        have HFW := Lib.hid (show FieldRow _ _ _ _ _ from row_grown HO5.out HCS.out HOne.out hlk HDB.out.1 HBW.out)
        have HNW := Lib.hid (own_ne HO5.out (Nat.succ_pos _))
        go_wp2_with (first
          | (go_at_call 8; go_loud (refine (HD.out _ _ _ (HT2.out.below HBW.out) (HRA2.out.below HBW.out) HFW.out (HRC2.out.below HBW.out) HNW.out).mono ?_); rintro e w6 ⟨rfl, hb⟩
             have HB6 := Lib.hid (bnext HBW.out hb)
             obtain ⟨q0, q1, q2, q3, q4, q5, q6⟩ := HCB2.out.below HB6.out
             clear hb))
        go_meet
        case rel => exact HB6.out
  rename World => wA
  have HBa := Lib.hid (bnext HB2.out hcut)
  have HRAa := Lib.hid (HRA2.out.below hcut)
  have HRBa := Lib.hid (HRB2.out.below hcut)
  have HRCa := Lib.hid (HRC2.out.below hcut)
  have HTa := Lib.hid (HT2.out.below hcut)
  have HCBa := Lib.hid (HCB2.out.below hcut)
  clear q0 q1 q2 q3 q4 q5 q6
  obtain ⟨q0, q1, q2, q3, q4, q5, q6⟩ := HCB2.out.below hcut
  clear hcut
  go_upto_region 11 with fail
  go_cut [58] from 9 (fun sc wx => sc = .bool (decide (0 < m ∧ m < 8)) ∧ wA = wx)
  case first =>
    by_cases hk0 : 0 < m
    · have e1 : decide ((0 : Int) < (m : Int)) = true := decide_eq_true (by omega)
      by_cases hk8 : m < 8
      · have e2 : decide ((m : Int) < (8 : Int)) = true := decide_eq_true (by omega)
        have e3 : (decide (0 < m ∧ m < 8)) = true := decide_eq_true ⟨hk0, hk8⟩
        go_wp2_with fail
        go_meet
        case rel => exact ⟨by rw [e3], rfl⟩
      · have e2 : decide ((m : Int) < (8 : Int)) = false := decide_eq_false (by omega)
        have e3 : (decide (0 < m ∧ m < 8)) = false := decide_eq_false (fun h => hk8 h.2)
        go_wp2_with fail
        go_meet
        case rel => exact ⟨by rw [e3], rfl⟩
    · have e1 : decide ((0 : Int) < (m : Int)) = false := decide_eq_false (by omega)
      have e3 : (decide (0 < m ∧ m < 8)) = false := decide_eq_false (fun h => hk0 h.1)
      go_wp2_with fail
      go_meet
      case rel => exact ⟨by rw [e3], rfl⟩
  obtain ⟨hsc, rfl⟩ := hcut
  subst hsc
  go_upto_if 58 with fail
  go_cut [] from 9 (fun wx => Below wA.heap.size wA wx)
  case first =>
    by_cases hk : 0 < m ∧ m < 8
    case neg =>
      have e3 : (decide (0 < m ∧ m < 8)) = false := decide_eq_false hk
      rw [e3]
      clear hk
      go_wp2_with fail
      go_meet
      case rel => exact Below.refl _ _
    case pos =>
      have e3 : (decide (0 < m ∧ m < 8)) = true := decide_eq_true hk
      obtain ⟨hk0, hk8⟩ := hk
      rw [e3]
      have hx := Hx.out
      have hw := Hw.out
      have h0 := H0.out
      have hA := HA.out
      have hB := HN.out
      have hC := HC.out
      obtain ⟨t, htk, htm⟩ := pick_at z m hk0
      have hcv := fun W => conv_uint z W
      have hck := fun W => conv_uint (m : Int) W
      rw [wrap_small_u m (by omega)] at hck
      have hrm := fun W => rem_uint (IntKind.u64.wrap z) m t hk0 htm W
      have hlk : x.meths.length = m := HRCa.out.1
      obtain ⟨b1, o1, rfl, hb2, hy1⟩ := SRow.at_ HRCa.out htk
      have hyt : x.meths[t]'(by rw [hlk]; exact htk) ∈ x.meths := List.getElem_mem _
      generalize x.meths[t]'(by rw [hlk]; exact htk) = y at *
      have HD := fun W A' c' T RA RB RC hN => HK.out ⟨x.nm, x.su, x.faces, x.face, x.fields, x.meths ++ [y]⟩ A i j B k l A' (m + 1) c' W T RA RB RC hA hB hN
        ⟨hx.1, hx.2.1, hx.2.2.1, hx.2.2.2.1, ⟨fun y hy => (List.mem_append.1 hy).elim (hx.2.2.2.2.1 y) (fun h => by obtain rfl := List.mem_singleton.1 h; exact hx.2.2.2.2.1 _ hyt), by rw [List.length_append, List.length_singleton]; omega⟩⟩ (fun y hy => (List.mem_append.1 hy).elim (hw y) (fun h => by obtain rfl := List.mem_singleton.1 h; exact hw _ hyt))
      rw [twice_meths h0 hyt (by omega)] at HD
      unfold classV at HD
      replace HD := Lib.hid HD
      obtain ⟨yn, yt, ys, ya, yp, yl, yc, yh⟩ := y
      obtain ⟨g0, g1, g2, g3, g4, g5, ⟨E1, en, ec, g6, g7, g8⟩, ⟨E2, fn, fc, h6, h7, h8⟩⟩ := hy1
      have HY := Lib.hid (show EightAt wA b1 (o1 + t * 8) (.string (bs yn)) (.string (bs yt)) (.bool ys) (.bool ya) (.bool yp) (.int .i64 yl) (.slice E1 en ec) (.slice E2 fn fc) from ⟨g0, g1, g2, g3, g4, g5, g6, h6⟩)
      have HOne := Lib.hid (meth_one2 wA yn yt ys ya yp yl g7 g8 h7 h8)
      clear g0 g1 g2 g3 g4 g5 g6 g7 g8 h6 h7 h8
      clear hx hw h0 hA hB hC hyt
      go_wp2_with fail
      obtain ⟨cs, hcs, hly⟩ := SRow.cells (At := MethAt) meth_copies HRCa.out
      have hcl := hcs.1
      rw [hlk] at hcl
      have hc1 := hcs.2.1
      have HCS := Lib.hid hcs
      have HBV := Lib.hid (al1 wA (.cells #[.string (bs x.nm), .string (bs x.su), .slice A i j, .bool x.face, .slice B k l, .slice (some ⟨b1, o1, none⟩) m n] 26))
      have HDB := Lib.hid (cbox_at wA x A i j B k l (some ⟨b1, o1, none⟩) m n 26 (0, 0))
      have HFZ := Lib.hid (frozen_new wA #[.string (bs x.nm), .string (bs x.su), .slice A i j, .bool x.face, .slice B k l, .slice (some ⟨b1, o1, none⟩) m n] 26 5)
      have HLY := Lib.hid (hly.below HBV.out)
      have HYV := Lib.hid (eight_stays HY.out hb2 HBV.out)
      have HCV := Lib.hid (HCBa.out.below HBV.out)
      clear hcs hly q0 q1 q2 q3 q4 q5 q6
      generalize hV : wA.alloc (.cells #[.string (bs x.nm), .string (bs x.su), .slice A i j, .bool x.face, .slice B k l, .slice (some ⟨b1, o1, none⟩) m n] 26) = V at *
      replace hV := Lib.hid hV
      obtain ⟨r0, r1, r2, r3, r4, r5, r6⟩ := HCV.out
      obtain ⟨s0, s1, s2, s3, s4, s5, s6⟩ := HDB.out
      obtain ⟨y0, y1, y2, y3, y4, y5, y6, y7⟩ := HYV.out
      have hfz := HFZ.out
      have hn1 : wA.heap.size ≠ w.heap.size := Nat.ne_of_gt HCBa.out.1
      have hn2 : wA.heap.size ≠ b1 := Nat.ne_of_gt hb2
      first | go_region_held_law (fun w' => w'.cell? ⟨w.heap.size, 5, none⟩ = some (.slice (some ⟨b1, o1, none⟩) m n) ∧ w'.cell? ⟨b1, o1 + t * 8, none⟩ = some (.string (bs yn)) ∧ w'.cell? ⟨b1, o1 + t * 8 + 1, none⟩ = some (.string (bs yt)) ∧ w'.cell? ⟨b1, o1 + t * 8 + 2, none⟩ = some (.bool ys) ∧ w'.cell? ⟨b1, o1 + t * 8 + 3, none⟩ = some (.bool ya) ∧ w'.cell? ⟨b1, o1 + t * 8 + 4, none⟩ = some (.bool yp) ∧ w'.cell? ⟨b1, o1 + t * 8 + 5, none⟩ = some (.int .i64 yl) ∧ w'.cell? ⟨b1, o1 + t * 8 + 6, none⟩ = some (.slice E1 en ec) ∧ w'.cell? ⟨b1, o1 + t * 8 + 7, none⟩ = some (.slice E2 fn fc))
        (go_keep)
        (first
          | (refine step_rows rfl (.tmp 60) (.tmp 62) 24 41 8 96 _ rfl Tryd.underlying24 meth_info rfl (by decide) V.heap.size (.slice (some ⟨V.heap.size, 0, none⟩) 0 0) 0 [] cs m (by simp [Act.eval, Act.put]) (own_drew_ (own_bare V _ 8 _ (Nat.le_refl _))) (some ⟨b1, o1, none⟩) m n (by simp [Act.eval, Act.put]) (by omega) hcl hc1 (HLY.out.below (al1 V (.cells #[] 41 (0, 0)))).drew (fun h => by cases h) (by omega) (by decide) (al1 V (.cells #[] 41 (0, 0))).drew.size ?_
             intro A4 c4 w4 hv4 hb4 hg4
             have HB4 := Lib.hid ((al1 V (.cells #[] 41 (0, 0))).drew.trans hb4)
             have HO4 := Lib.hid hv4
             have HLit := Lib.hid (trivial)
             obtain ⟨r0, r1, r2, r3, r4, r5, r6⟩ := HCV.out.below HB4.out
             obtain ⟨y0, y1, y2, y3, y4, y5, y6, y7⟩ := eight_stays HYV.out (Nat.lt_of_lt_of_le hb2 HBV.out.size) HB4.out
             have s5' := (HB4.out.cell (p := ⟨wA.heap.size, 5, none⟩) s0).trans s6
             have hfz' := (HB4.out.frozen (p := ⟨wA.heap.size, 5, none⟩) s0).trans hfz
             have hs4 := HB4.out.size
             clear hv4 hb4 hg4)
          | (refine step_rows rfl (.tmp 60) (.tmp 62) 24 41 8 96 _ rfl Tryd.underlying24 meth_info rfl (by decide) V.heap.size (.slice (some ⟨V.heap.size, 0, none⟩) 0 0) 0 [] cs m (by simp [Act.eval, Act.put]) (own_drew_ ((own_bare V _ 8 _ (Nat.le_refl _)).alloc (.cells #[.string (bs yn), .string (bs yt), .bool ys, .bool ya, .bool yp, .int .i64 yl, .slice E1 en ec, .slice E2 fn fc] 41 (0, 0)))) (some ⟨b1, o1, none⟩) m n (by simp [Act.eval, Act.put]) (by omega) hcl hc1 (HLY.out.below (al2c V (.cells #[] 41 (0, 0)) (.cells #[.string (bs yn), .string (bs yt), .bool ys, .bool ya, .bool yp, .int .i64 yl, .slice E1 en ec, .slice E2 fn fc] 41 (0, 0)))).drew (fun h => by cases h) (by omega) (by decide) (al2c V (.cells #[] 41 (0, 0)) (.cells #[.string (bs yn), .string (bs yt), .bool ys, .bool ya, .bool yp, .int .i64 yl, .slice E1 en ec, .slice E2 fn fc] 41 (0, 0))).drew.size ?_
             intro A4 c4 w4 hv4 hb4 hg4
             have HB4 := Lib.hid ((al2c V (.cells #[] 41 (0, 0)) (.cells #[.string (bs yn), .string (bs yt), .bool ys, .bool ya, .bool yp, .int .i64 yl, .slice E1 en ec, .slice E2 fn fc] 41 (0, 0))).drew.trans hb4)
             have HO4 := Lib.hid hv4
             have HLit := Lib.hid ((lies_lit2 V (.cells #[] 41 (0, 0)) #[.string (bs yn), .string (bs yt), .bool ys, .bool ya, .bool yp, .int .i64 yl, .slice E1 en ec, .slice E2 fn fc] [.string (bs yn), .string (bs yt), .bool ys, .bool ya, .bool yp, .int .i64 yl, .slice E1 en ec, .slice E2 fn fc] rfl 1 41 (0, 0)).drew.grown hg4 (fun a ha => by obtain rfl := Option.some.inj ha; intro h; have := Option.some.inj h; simp at this))
             obtain ⟨r0, r1, r2, r3, r4, r5, r6⟩ := HCV.out.below HB4.out
             obtain ⟨y0, y1, y2, y3, y4, y5, y6, y7⟩ := eight_stays HYV.out (Nat.lt_of_lt_of_le hb2 HBV.out.size) HB4.out
             have s5' := (HB4.out.cell (p := ⟨wA.heap.size, 5, none⟩) s0).trans s6
             have hfz' := (HB4.out.frozen (p := ⟨wA.heap.size, 5, none⟩) s0).trans hfz
             have hs4 := HB4.out.size
             clear hv4 hb4 hg4)
          | (refine step_rows rfl (.tmp 60) (.tmp 62) 24 41 8 96 _ rfl Tryd.underlying24 meth_info rfl (by decide) V.heap.size (.slice (some ⟨V.heap.size + 1, 0, none⟩) 0 0) 0 [] cs m (by simp [Act.eval, Act.put]) (own_drew_ (own_bare2 V (.cells #[.string (bs yn), .string (bs yt), .bool ys, .bool ya, .bool yp, .int .i64 yl, .slice E1 en ec, .slice E2 fn fc] 41 (0, 0)) _ 8 _ (Nat.le_refl _))) (some ⟨b1, o1, none⟩) m n (by simp [Act.eval, Act.put]) (by omega) hcl hc1 (HLY.out.below (al2c V (.cells #[.string (bs yn), .string (bs yt), .bool ys, .bool ya, .bool yp, .int .i64 yl, .slice E1 en ec, .slice E2 fn fc] 41 (0, 0)) (.cells #[] 41 (0, 0)))).drew (fun h => by cases h) (by omega) (by decide) (al2c V (.cells #[.string (bs yn), .string (bs yt), .bool ys, .bool ya, .bool yp, .int .i64 yl, .slice E1 en ec, .slice E2 fn fc] 41 (0, 0)) (.cells #[] 41 (0, 0))).drew.size ?_
             intro A4 c4 w4 hv4 hb4 hg4
             have HB4 := Lib.hid ((al2c V (.cells #[.string (bs yn), .string (bs yt), .bool ys, .bool ya, .bool yp, .int .i64 yl, .slice E1 en ec, .slice E2 fn fc] 41 (0, 0)) (.cells #[] 41 (0, 0))).drew.trans hb4)
             have HO4 := Lib.hid hv4
             have HLit := Lib.hid (((lies_lit V #[.string (bs yn), .string (bs yt), .bool ys, .bool ya, .bool yp, .int .i64 yl, .slice E1 en ec, .slice E2 fn fc] [.string (bs yn), .string (bs yt), .bool ys, .bool ya, .bool yp, .int .i64 yl, .slice E1 en ec, .slice E2 fn fc] rfl 1 41 (0, 0)).below (al1 _ (.cells #[] 41 (0, 0)))).drew.grown hg4 (fun a ha => by obtain rfl := Option.some.inj ha; intro h; have := Option.some.inj h; simp at this))
             obtain ⟨r0, r1, r2, r3, r4, r5, r6⟩ := HCV.out.below HB4.out
             obtain ⟨y0, y1, y2, y3, y4, y5, y6, y7⟩ := eight_stays HYV.out (Nat.lt_of_lt_of_le hb2 HBV.out.size) HB4.out
             have s5' := (HB4.out.cell (p := ⟨wA.heap.size, 5, none⟩) s0).trans s6
             have hfz' := (HB4.out.frozen (p := ⟨wA.heap.size, 5, none⟩) s0).trans hfz
             have hs4 := HB4.out.size
             clear hv4 hb4 hg4)
          | (refine step_rows rfl (.tmp 63) (.tmp 75) 24 41 8 96 _ rfl Tryd.underlying24 meth_info rfl (by decide) V.heap.size (.slice A4 m c4) m ([] ++ cs) [.string (bs yn), .string (bs yt), .bool ys, .bool ya, .bool yp, .int .i64 yl, .slice E1 en ec, .slice E2 fn fc] (m + 1) (by simp [Act.eval, Act.put]) (HO4.out.alloc _) _ 1 1 (by simp [Act.eval, Act.put]) rfl rfl (by simp [Value.oneCell']) (lies_lit w4 #[.string (bs yn), .string (bs yt), .bool ys, .bool ya, .bool yp, .int .i64 yl, .slice E1 en ec, .slice E2 fn fc] [.string (bs yn), .string (bs yt), .bool ys, .bool ya, .bool yp, .int .i64 yl, .slice E1 en ec, .slice E2 fn fc] rfl 1 41 (0, 0)) (fun h => by cases h) (by omega) (by decide) (Nat.le_trans hs4 (al1 w4 (.cells #[.string (bs yn), .string (bs yt), .bool ys, .bool ya, .bool yp, .int .i64 yl, .slice E1 en ec, .slice E2 fn fc] 41 (0, 0))).size) ?_
             intro A5 c5 w5 hv5 hb5 hg5
             have HB5 := Lib.hid ((HB4.out.alloc hs4 (.cells #[.string (bs yn), .string (bs yt), .bool ys, .bool ya, .bool yp, .int .i64 yl, .slice E1 en ec, .slice E2 fn fc] 41 (0, 0))).trans hb5)
             have HO5 := Lib.hid hv5
             obtain ⟨r0, r1, r2, r3, r4, r5, r6⟩ := HCV.out.below HB5.out
             obtain ⟨y0, y1, y2, y3, y4, y5, y6, y7⟩ := eight_stays HYV.out (Nat.lt_of_lt_of_le hb2 HBV.out.size) HB5.out
             have s5' := (HB5.out.cell (p := ⟨wA.heap.size, 5, none⟩) s0).trans s6
             have hfz' := (HB5.out.frozen (p := ⟨wA.heap.size, 5, none⟩) s0).trans hfz
             obtain ⟨u0, u1, u2, u3, u4, u5, u6⟩ := HDB.out.below HB5.out
             clear hv5 hb5 hg5)
          | (refine step_rows rfl (.tmp 63) (.tmp 75) 24 41 8 96 _ rfl Tryd.underlying24 meth_info rfl (by decide) V.heap.size (.slice A4 m c4) m ([] ++ cs) [.string (bs yn), .string (bs yt), .bool ys, .bool ya, .bool yp, .int .i64 yl, .slice E1 en ec, .slice E2 fn fc] (m + 1) (by simp [Act.eval, Act.put]) HO4.out _ 1 1 (by simp [Act.eval, Act.put]) rfl rfl (by simp [Value.oneCell']) HLit.out (fun h => by cases h) (by omega) (by decide) hs4 ?_
             intro A5 c5 w5 hv5 hb5 hg5
             have HB5 := Lib.hid (HB4.out.trans hb5)
             have HO5 := Lib.hid hv5
             obtain ⟨r0, r1, r2, r3, r4, r5, r6⟩ := HCV.out.below HB5.out
             obtain ⟨y0, y1, y2, y3, y4, y5, y6, y7⟩ := eight_stays HYV.out (Nat.lt_of_lt_of_le hb2 HBV.out.size) HB5.out
             have s5' := (HB5.out.cell (p := ⟨wA.heap.size, 5, none⟩) s0).trans s6
             have hfz' := (HB5.out.frozen (p := ⟨wA.heap.size, 5, none⟩) s0).trans hfz
             obtain ⟨u0, u1, u2, u3, u4, u5, u6⟩ := HDB.out.below HB5.out
             clear hv5 hb5 hg5)) | fail
      all_goals
        have HBW := Lib.hid (bset_ (v := .slice A5 (m + 1) c5) (j := 5) (bnext HBV.out HB5.out) (Nat.le_refl _))
        have HFW := Lib.hid (show MethRow _ _ _ _ _ from row_grown HO5.out HCS.out HOne.out hlk HDB.out.1 HBW.out)
        have HNW := Lib.hid (own_ne HO5.out (Nat.succ_pos _))
        go_wp2_with (first
          | (go_at_call 8; go_loud (refine (HD.out _ _ _ (HTa.out.below HBW.out) (HRAa.out.below HBW.out) (HRBa.out.below HBW.out) HFW.out HNW.out).mono ?_); rintro e w6 ⟨rfl, hb⟩
             have HB6 := Lib.hid (bnext HBW.out hb)
             obtain ⟨q0, q1, q2, q3, q4, q5, q6⟩ := HCBa.out.below HB6.out
             clear hb))
        go_meet
        case rel => exact HB6.out
  rename World => wB
  have HBb := Lib.hid (bnext HBa.out hcut)
  have HRAb := Lib.hid (HRAa.out.below hcut)
  have HRBb := Lib.hid (HRBa.out.below hcut)
  have HRCb := Lib.hid (HRCa.out.below hcut)
  have HTb := Lib.hid (HTa.out.below hcut)
  have HCBb := Lib.hid (HCBa.out.below hcut)
  clear q0 q1 q2 q3 q4 q5 q6
  obtain ⟨q0, q1, q2, q3, q4, q5, q6⟩ := HCBa.out.below hcut
  clear hcut
  go_upto_region 16 with fail
  by_cases hk0 : 0 < i
  · have e1 : decide ((0 : Int) < (i : Int)) = true := decide_eq_true (by omega)
    have hx := Hx.out
    have hw := Hw.out
    have h0 := H0.out
    have hA := HA.out
    have hB := HN.out
    have hC := HC.out
    have hk8 : i ≤ 8 := by
      have e1 := (classF_zero.1 h0).2.2.1
      have e2 := HRAb.out.1
      omega
    obtain ⟨t, htk, htm⟩ := pick_at z i hk0
    have hcv := fun W => conv_uint z W
    have hck := fun W => conv_uint (i : Int) W
    rw [wrap_small_u i (by omega)] at hck
    have hrm := fun W => rem_uint (IntKind.u64.wrap z) i t hk0 htm W
    have hlk : x.faces.length = i := HRAb.out.1
    obtain ⟨b1, o1, rfl, hb2, hy1⟩ := SRow.at_ HRAb.out htk
    have hyt : x.faces[t]'(by rw [hlk]; exact htk) ∈ x.faces := List.getElem_mem _
    generalize x.faces[t]'(by rw [hlk]; exact htk) = y at *
    have HD := fun W A' c' T RA RB RC hN => HK.out ⟨x.nm, x.su, x.faces ++ [y], x.face, x.fields, x.meths⟩ A' (i + 1) c' B k l C m n W T RA RB RC hN hB hC
      ⟨hx.1, hx.2.1, ⟨fun y hy => (List.mem_append.1 hy).elim (hx.2.2.1.1 y) (fun h => by obtain rfl := List.mem_singleton.1 h; exact hx.2.2.1.1 _ hyt), by rw [List.length_append, List.length_singleton]; omega⟩, hx.2.2.2⟩ hw
    rw [twice_faces h0 hyt] at HD
    unfold classV at HD
    replace HD := Lib.hid HD
    have HY := Lib.hid hy1
    have HOne := Lib.hid (str_one2 wB y)
    clear hy1
    clear hx hw h0 hA hB hC hyt
    go_wp2_with fail
    obtain ⟨cs, hcs, hly⟩ := SRow.cells (At := StrAt) str_copies HRAb.out
    have hcl := hcs.1
    rw [hlk] at hcl
    have hc1 := hcs.2.1
    have HCS := Lib.hid hcs
    have HBV := Lib.hid (al1 wB (.cells #[.string (bs x.nm), .string (bs x.su), .slice (some ⟨b1, o1, none⟩) i j, .bool x.face, .slice B k l, .slice C m n] 26))
    have HDB := Lib.hid (cbox_at wB x (some ⟨b1, o1, none⟩) i j B k l C m n 26 (0, 0))
    have HFZ := Lib.hid (frozen_new wB #[.string (bs x.nm), .string (bs x.su), .slice (some ⟨b1, o1, none⟩) i j, .bool x.face, .slice B k l, .slice C m n] 26 2)
    have HLY := Lib.hid (hly.below HBV.out)
    have HYV := Lib.hid (str_stays HY.out hb2 HBV.out)
    have HCV := Lib.hid (HCBb.out.below HBV.out)
    clear hcs hly q0 q1 q2 q3 q4 q5 q6
    generalize hV : wB.alloc (.cells #[.string (bs x.nm), .string (bs x.su), .slice (some ⟨b1, o1, none⟩) i j, .bool x.face, .slice B k l, .slice C m n] 26) = V at *
    replace hV := Lib.hid hV
    obtain ⟨r0, r1, r2, r3, r4, r5, r6⟩ := HCV.out
    obtain ⟨s0, s1, s2, s3, s4, s5, s6⟩ := HDB.out
    have y0 := HYV.out
    unfold StrAt at y0
    rw [Nat.mul_one] at y0
    have hfz := HFZ.out
    have hn1 : wB.heap.size ≠ w.heap.size := Nat.ne_of_gt HCBb.out.1
    have hn2 : wB.heap.size ≠ b1 := Nat.ne_of_gt hb2
    first | go_region_held_law (fun w' => w'.cell? ⟨w.heap.size, 2, none⟩ = some (.slice (some ⟨b1, o1, none⟩) i j) ∧ w'.cell? ⟨b1, o1 + t, none⟩ = some (.string (bs y)))
      (go_keep)
      (first
        | (refine step_rows rfl (.tmp 87) (.tmp 89) 22 9 1 16 _ rfl Tryd.underlying22 str_info2 rfl (by decide) V.heap.size (.slice (some ⟨V.heap.size, 0, none⟩) 0 0) 0 [] cs i (by simp [Act.eval, Act.put]) (own_drew_ (own_bare V _ 1 _ (Nat.le_refl _))) (some ⟨b1, o1, none⟩) i j (by simp [Act.eval, Act.put]) (by omega) hcl hc1 (HLY.out.below (al1 V (.cells #[] 9 (0, 0)))).drew (fun h => by cases h) (by omega) (by decide) (al1 V (.cells #[] 9 (0, 0))).drew.size ?_
           intro A4 c4 w4 hv4 hb4 hg4
           have HB4 := Lib.hid ((al1 V (.cells #[] 9 (0, 0))).drew.trans hb4)
           have HO4 := Lib.hid hv4
           have HLit := Lib.hid (trivial)
           obtain ⟨r0, r1, r2, r3, r4, r5, r6⟩ := HCV.out.below HB4.out
           have y0 := str_stays HYV.out (Nat.lt_of_lt_of_le hb2 HBV.out.size) HB4.out
           unfold StrAt at y0
           rw [Nat.mul_one] at y0
           have s5' := (HB4.out.cell (p := ⟨wB.heap.size, 2, none⟩) s0).trans s3
           have hfz' := (HB4.out.frozen (p := ⟨wB.heap.size, 2, none⟩) s0).trans hfz
           have hs4 := HB4.out.size
           clear hv4 hb4 hg4)
        | (refine step_rows rfl (.tmp 87) (.tmp 89) 22 9 1 16 _ rfl Tryd.underlying22 str_info2 rfl (by decide) V.heap.size (.slice (some ⟨V.heap.size, 0, none⟩) 0 0) 0 [] cs i (by simp [Act.eval, Act.put]) (own_drew_ ((own_bare V _ 1 _ (Nat.le_refl _)).alloc (.cells #[.string (bs y)] 9 (0, 0)))) (some ⟨b1, o1, none⟩) i j (by simp [Act.eval, Act.put]) (by omega) hcl hc1 (HLY.out.below (al2c V (.cells #[] 9 (0, 0)) (.cells #[.string (bs y)] 9 (0, 0)))).drew (fun h => by cases h) (by omega) (by decide) (al2c V (.cells #[] 9 (0, 0)) (.cells #[.string (bs y)] 9 (0, 0))).drew.size ?_
           intro A4 c4 w4 hv4 hb4 hg4
           have HB4 := Lib.hid ((al2c V (.cells #[] 9 (0, 0)) (.cells #[.string (bs y)] 9 (0, 0))).drew.trans hb4)
           have HO4 := Lib.hid hv4
           have HLit := Lib.hid ((lies_lit2 V (.cells #[] 9 (0, 0)) #[.string (bs y)] [.string (bs y)] rfl 1 9 (0, 0)).drew.grown hg4 (fun a ha => by obtain rfl := Option.some.inj ha; intro h; have := Option.some.inj h; simp at this))
           obtain ⟨r0, r1, r2, r3, r4, r5, r6⟩ := HCV.out.below HB4.out
           have y0 := str_stays HYV.out (Nat.lt_of_lt_of_le hb2 HBV.out.size) HB4.out
           unfold StrAt at y0
           rw [Nat.mul_one] at y0
           have s5' := (HB4.out.cell (p := ⟨wB.heap.size, 2, none⟩) s0).trans s3
           have hfz' := (HB4.out.frozen (p := ⟨wB.heap.size, 2, none⟩) s0).trans hfz
           have hs4 := HB4.out.size
           clear hv4 hb4 hg4)
        | (refine step_rows rfl (.tmp 87) (.tmp 89) 22 9 1 16 _ rfl Tryd.underlying22 str_info2 rfl (by decide) V.heap.size (.slice (some ⟨V.heap.size + 1, 0, none⟩) 0 0) 0 [] cs i (by simp [Act.eval, Act.put]) (own_drew_ (own_bare2 V (.cells #[.string (bs y)] 9 (0, 0)) _ 1 _ (Nat.le_refl _))) (some ⟨b1, o1, none⟩) i j (by simp [Act.eval, Act.put]) (by omega) hcl hc1 (HLY.out.below (al2c V (.cells #[.string (bs y)] 9 (0, 0)) (.cells #[] 9 (0, 0)))).drew (fun h => by cases h) (by omega) (by decide) (al2c V (.cells #[.string (bs y)] 9 (0, 0)) (.cells #[] 9 (0, 0))).drew.size ?_
           intro A4 c4 w4 hv4 hb4 hg4
           have HB4 := Lib.hid ((al2c V (.cells #[.string (bs y)] 9 (0, 0)) (.cells #[] 9 (0, 0))).drew.trans hb4)
           have HO4 := Lib.hid hv4
           have HLit := Lib.hid (((lies_lit V #[.string (bs y)] [.string (bs y)] rfl 1 9 (0, 0)).below (al1 _ (.cells #[] 9 (0, 0)))).drew.grown hg4 (fun a ha => by obtain rfl := Option.some.inj ha; intro h; have := Option.some.inj h; simp at this))
           obtain ⟨r0, r1, r2, r3, r4, r5, r6⟩ := HCV.out.below HB4.out
           have y0 := str_stays HYV.out (Nat.lt_of_lt_of_le hb2 HBV.out.size) HB4.out
           unfold StrAt at y0
           rw [Nat.mul_one] at y0
           have s5' := (HB4.out.cell (p := ⟨wB.heap.size, 2, none⟩) s0).trans s3
           have hfz' := (HB4.out.frozen (p := ⟨wB.heap.size, 2, none⟩) s0).trans hfz
           have hs4 := HB4.out.size
           clear hv4 hb4 hg4)
        | (refine step_rows rfl (.tmp 90) (.tmp 102) 22 9 1 16 _ rfl Tryd.underlying22 str_info2 rfl (by decide) V.heap.size (.slice A4 i c4) i ([] ++ cs) [.string (bs y)] (i + 1) (by simp [Act.eval, Act.put]) (HO4.out.alloc _) _ 1 1 (by simp [Act.eval, Act.put]) rfl rfl (by simp [Value.oneCell']) (lies_lit w4 #[.string (bs y)] [.string (bs y)] rfl 1 9 (0, 0)) (fun h => by cases h) (by omega) (by decide) (Nat.le_trans hs4 (al1 w4 (.cells #[.string (bs y)] 9 (0, 0))).size) ?_
           intro A5 c5 w5 hv5 hb5 hg5
           have HB5 := Lib.hid ((HB4.out.alloc hs4 (.cells #[.string (bs y)] 9 (0, 0))).trans hb5)
           have HO5 := Lib.hid hv5
           obtain ⟨r0, r1, r2, r3, r4, r5, r6⟩ := HCV.out.below HB5.out
           have y0 := str_stays HYV.out (Nat.lt_of_lt_of_le hb2 HBV.out.size) HB5.out
           unfold StrAt at y0
           rw [Nat.mul_one] at y0
           have s5' := (HB5.out.cell (p := ⟨wB.heap.size, 2, none⟩) s0).trans s3
           have hfz' := (HB5.out.frozen (p := ⟨wB.heap.size, 2, none⟩) s0).trans hfz
           obtain ⟨u0, u1, u2, u3, u4, u5, u6⟩ := HDB.out.below HB5.out
           clear hv5 hb5 hg5)
        | (refine step_rows rfl (.tmp 90) (.tmp 102) 22 9 1 16 _ rfl Tryd.underlying22 str_info2 rfl (by decide) V.heap.size (.slice A4 i c4) i ([] ++ cs) [.string (bs y)] (i + 1) (by simp [Act.eval, Act.put]) HO4.out _ 1 1 (by simp [Act.eval, Act.put]) rfl rfl (by simp [Value.oneCell']) HLit.out (fun h => by cases h) (by omega) (by decide) hs4 ?_
           intro A5 c5 w5 hv5 hb5 hg5
           have HB5 := Lib.hid (HB4.out.trans hb5)
           have HO5 := Lib.hid hv5
           obtain ⟨r0, r1, r2, r3, r4, r5, r6⟩ := HCV.out.below HB5.out
           have y0 := str_stays HYV.out (Nat.lt_of_lt_of_le hb2 HBV.out.size) HB5.out
           unfold StrAt at y0
           rw [Nat.mul_one] at y0
           have s5' := (HB5.out.cell (p := ⟨wB.heap.size, 2, none⟩) s0).trans s3
           have hfz' := (HB5.out.frozen (p := ⟨wB.heap.size, 2, none⟩) s0).trans hfz
           obtain ⟨u0, u1, u2, u3, u4, u5, u6⟩ := HDB.out.below HB5.out
           clear hv5 hb5 hg5)) | fail
    all_goals
      have HBW := Lib.hid (bset_ (v := .slice A5 (i + 1) c5) (j := 2) (bnext HBV.out HB5.out) (Nat.le_refl _))
      have HFW := Lib.hid (show StrRow _ _ _ _ _ from row_grown HO5.out HCS.out HOne.out hlk HDB.out.1 HBW.out)
      have HNW := Lib.hid (own_ne HO5.out (Nat.succ_pos _))
      go_wp2_with (first
        | (go_at_call 8; go_loud (refine (HD.out _ _ _ (HTb.out.below HBW.out) HFW.out (HRBb.out.below HBW.out) (HRCb.out.below HBW.out) HNW.out).mono ?_); rintro e w6 ⟨rfl, hb⟩
           have HB6 := Lib.hid (bnext HBW.out hb)
           obtain ⟨q0, q1, q2, q3, q4, q5, q6⟩ := HCBb.out.below HB6.out
           clear hb))
      go_ret
      exact ⟨rfl, bnext HBb.out HB6.out⟩
  · have e1 : decide ((0 : Int) < (i : Int)) = false := decide_eq_false (by omega)
    go_wp2_with fail
    go_ret
    exact ⟨rfl, HBb.out⟩
set_option maxRecDepth 20000 in
set_option maxHeartbeats 4000000 in
theorem twice_bad (K : ClassChecks) (x : ClassD) (z : Int) (A : Option Addr) (i j : Nat) (B : Option Addr) (k l : Nat) (C : Option Addr) (m n : Nat) (w : World) (T : Tab w) (RA : StrRow w A i j x.faces) (RB : FieldRow w B k l x.fields) (RC : MethRow w C m n x.meths) (hA : A = none → i = 0 ∧ j = 0) (hB : B = none → k = 0 ∧ l = 0) (hC : C = none → m = 0 ∧ n = 0) (hx : x.upto 140737488351232) (hw : x.wf) (h0 : classF x ≠ 0) :
    Calls Tryd.prog 5 #[classV x A i j B k l C m n, .int .i64 z] w fun e w' => e = .returned (.bool true) ∧ Below w.heap.size w w' := by
  have HCk := fun W T RA RB RC => K x A i j B k l C m n W T RA RB RC hA hB hC hx hw
  have HNa := Lib.hid named_any
  have HB0 := Lib.hid (al1 w (.cells #[.string (bs x.nm), .string (bs x.su), .slice A i j, .bool x.face, .slice B k l, .slice C m n] 26))
  have HCB := Lib.hid (cbox_at w x A i j B k l C m n 26 (0, 0))
  have HT := Lib.hid (T.below HB0.out)
  have HRA := Lib.hid (RA.below HB0.out)
  have HRB := Lib.hid (RB.below HB0.out)
  have HRC := Lib.hid (RC.below HB0.out)
  have hne : (classF x != 0) = true := by rw [bne_iff_ne]; exact h0
  clear K T RA RB RC hA hB hC hx hw h0
  unfold classV at HCk ⊢
  generalize classF x = q at *
  replace HCk := Lib.hid HCk
  go_enter Tryd.func5, Tryd.ntmps5
  go_wp2_with (first
    | (go_at_call 10; (with_reducible refine (HNa.out _).mono ?_); rintro e w1 ⟨rfl, hw1⟩
       subst hw1
       obtain ⟨p0, p1, p2, p3, p4, p5, p6⟩ := HCB.out)
    | (go_at_call 8; (with_reducible refine (HCk.out _ HT.out HRA.out HRB.out HRC.out).mono ?_); rintro e w2 ⟨rfl, hb⟩
       have HB2 := Lib.hid (bnext HB0.out hb)
       clear hb))
  go_ret
  exact ⟨rfl, HB2.out⟩
theorem classTwice_walk (K : ClassChecks) (x : ClassD) (z : Int) (A : Option Addr) (i j : Nat) (B : Option Addr) (k l : Nat) (C : Option Addr) (m n : Nat) (w : World) (T : Tab w) (RA : StrRow w A i j x.faces) (RB : FieldRow w B k l x.fields) (RC : MethRow w C m n x.meths) (hA : A = none → i = 0 ∧ j = 0) (hB : B = none → k = 0 ∧ l = 0) (hC : C = none → m = 0 ∧ n = 0) (hx : x.upto 140737488351232) (hw : x.wf) :
    Calls Tryd.prog 5 #[classV x A i j B k l C m n, .int .i64 z] w fun e w' => e = .returned (.bool true) ∧ Below w.heap.size w w' := by
  by_cases h0 : classF x = 0
  · exact twice_try K x z A i j B k l C m n w T RA RB RC hA hB hC hx hw h0
  · exact twice_bad K x z A i j B k l C m n w T RA RB RC hA hB hC hx hw h0
end Go.Proofs.YtkabkpkfglngnaaDoor
