/- The contract of the reference's UnitsOf: the units that b is the encoding of, or false where there are none. -/
import Derived.Test.YtekpinicfgofgaaUt4
import Derived.Deep.RegionWith
namespace Go.Proofs.Ytekpinicfgofgaa
open Go.ChangeShapes Go.WideShapes Go.ChangeAt Go.RowKit
set_option linter.unusedVariables false

def refN (b : List UInt8) : Nat := if 224 ≤ (b.getD 0 0).toNat then 3 else if 192 ≤ (b.getD 0 0).toNat then 2 else 1
def refU (b : List UInt8) : Nat :=
  if 224 ≤ (b.getD 0 0).toNat then (b.getD 0 0).toNat % 16 * 4096 + (b.getD 1 0).toNat % 64 * 64 + (b.getD 2 0).toNat % 64
  else if 192 ≤ (b.getD 0 0).toNat then (b.getD 0 0).toNat % 32 * 64 + (b.getD 1 0).toNat % 64 else (b.getD 0 0).toNat
theorem ref_range (b : List UInt8) : refU b < 65536 ∧ 1 ≤ refN b ∧ refN b ≤ 3 := by
  have h0 := byte_lt (b.getD 0 0)
  unfold refU refN
  repeat' split
  all_goals omega
theorem ref_enc {v : Nat} (hv : v < 65536) (s : List UInt8) : refN (encN v ++ s) = sizeN v ∧ refU (encN v ++ s) = v := by
  unfold encN sizeN
  split
  · simp only [refN, refU, List.cons_append, List.nil_append, List.getD_cons_zero, of_byte]
    rw [if_neg (by omega), if_neg (by omega), if_neg (by omega), if_neg (by omega)]
    exact ⟨rfl, by omega⟩
  · split
    · simp only [refN, refU, List.cons_append, List.nil_append, List.getD_cons_zero, List.getD_cons_succ, of_byte]
      rw [if_neg (by omega), if_pos (by omega), if_neg (by omega), if_pos (by omega)]
      exact ⟨rfl, by omega⟩
    · simp only [refN, refU, List.cons_append, List.nil_append, List.getD_cons_zero, List.getD_cons_succ, of_byte]
      rw [if_pos (by omega), if_pos (by omega)]
      exact ⟨rfl, by omega⟩
/-- Is the first piece the encoding of what it says? -/
def refOk (r : List UInt8) : Prop := refN r ≤ r.length ∧ encN (refU r) = r.take (refN r)
theorem ref_has {l l0 : List UInt16} {r : List UInt8} (h : encL l = encL l0 ++ r) (hr : 0 < r.length) : refOk r := by
  obtain ⟨c, rfl, e⟩ := encL_prefix h.symm
  cases c with
  | nil => rw [e] at hr; exact absurd hr (by simp [encL])
  | cons u c =>
    rw [e, encL_cons]
    have := ref_enc (unit_lt u) (encL c)
    unfold encU
    rw [refOk, this.1, this.2, ← enc_size]
    exact ⟨by simp, by simp⟩
theorem ref_next {l0 : List UInt16} {b r : List UInt8} (h : encL l0 ++ r = b) (hg : refOk r) : encL (l0 ++ [UInt16.ofNat (refU r)]) ++ r.drop (refN r) = b := by
  rw [encL_append, ← h, List.append_assoc]
  congr 1
  rw [encL_cons, encL_nil, List.append_nil, encU, unit_of (ref_range r).1, hg.2]
  exact List.take_append_drop _ _
theorem ubelow_next {w a b : World} (h : Below w.heap.size w a) (k : Below a.heap.size a b) : Below w.heap.size w b := h.trans (k.mono h.size)
theorem ubelow_drew {w a : World} {B : Nat} (h : Below B w a) (n : Nat) : Below B w (a.drewN n) := ⟨h.os, h.tape, h.output, h.size, h.block⟩
theorem below_of_drew {w a : World} {n : Nat} (h : Below (w.drewN n).heap.size (w.drewN n) a) : Below w.heap.size w a := ubelow_next (ubelow_drew (Below.refl _ _) n) h
theorem unit_new (w : World) {z : Int} {x : Nat} (hz : z = (x : Int)) (hx : x < 65536) (t : TypeId) (y : Nat × Nat) : Row (w.alloc (.cells #[.int .u16 z] t y)) (some ⟨w.heap.size, 0, none⟩) 1 1 ([UInt16.ofNat x].map unitV) := by
  subst hz; exact unit_row w x hx t y
theorem u16_in {z : Int} (h0 : 0 ≤ z) (h1 : z < 65536) : IntKind.u16.wrap z = z := wraps_u16 z h0 (by simpa using h1)
theorem head_row {w : World} {b o n c : Nat} {r : List UInt8} (R : Row w (some ⟨b, o, none⟩) n c (r.map byteV)) (k : Nat) (hk : k ≤ n) (hc : ¬ c = 0) : Row w (some ⟨b, o, none⟩) k c ((r.take k).map byteV) := by
  have h := R.cut (l := 0) (h := k) (Nat.zero_le _) hk
  rw [cutA, if_neg hc] at h
  simp only [Option.map_some, Nat.zero_mul, add_plain, Nat.add_zero, Nat.sub_zero, List.drop_zero] at h
  rw [List.map_take]
  exact h
theorem read_at {w : World} {b o n c : Nat} {r : List UInt8} (R : Row w (some ⟨b, o, none⟩) n c (r.map byteV)) (k : Nat) (hk : k < n) : w.cell? ⟨b, o + k, none⟩ = some (.int .u8 ((r.getD k 0).toNat : Int)) := by
  obtain ⟨b2, o2, u2, hA2, hb2, hu2, hc2⟩ := R.at_ hk
  obtain ⟨rfl, rfl⟩ : b = b2 ∧ o = o2 := by simpa using hA2
  have hl : k < r.length := by have := R.1; simp at this; omega
  obtain rfl : byteV r[k] = u2 := by simpa [hl] using hu2
  rw [hc2]
  simp [byteV, List.getD, hl]
def UnitsOfSays (w : World) (b : List UInt8) (e : Ending) (w' : World) : Prop :=
  Below w.heap.size w w' ∧ ((∃ l v, encL l = b ∧ e = .returned (.tuple #[v, .bool true]) ∧ w'.ownsRow w.heap.size 33 1 v l.length (l.map unitV)) ∨ ((∀ l, encL l ≠ b) ∧ e = .returned (.tuple #[.slice none 0 0, .bool false])))
set_option maxRecDepth 20000 in
set_option maxHeartbeats 8000000 in
theorem unitsOf_any (b : List UInt8) (A : Option Addr) (n c : Nat) (w : World) (R : Row w A n c (b.map byteV)) (hn : n ≤ 16777216) :
    Calls Try.prog 9 #[.slice A n c] w (UnitsOfSays w b) := by
  have hl : b.length = n := by simpa using R.1
  subst hl
  have HR := Lib.hid R
  have hun := Lib.hid units_any
  have hsa := Lib.hid same_any
  clear R
  go_enter Try.func9, Try.ntmps9
  go_wp2_with fail
  go_loopw [0, 4, 5, 6] (fun s v _ _ wr => ∃ (r : List UInt8) (l0 : List UInt16) (A : Option Addr) (c : Nat), s = .slice A r.length c ∧ Hid (Row w A r.length c (r.map byteV)) ∧ Hid (wr.ownsRow w.heap.size 33 1 v l0.length (l0.map unitV)) ∧ Hid (Below w.heap.size w wr) ∧ Hid (encL l0 ++ r = b))
    (fun s _ _ _ _ => match s with | .slice _ k _ => k | _ => 0)
  case atStart => exact ⟨b, [], A, c, rfl, HR, Lib.hid (World.ownsRow_nil _ _ _ _), Lib.hid (Below.refl _ _), Lib.hid rfl⟩
  case round =>
    obtain ⟨r, l0, A', c', rfl, HR', HO, HB, HE⟩ := hrel
    by_cases h0 : 0 < r.length
    · obtain ⟨b1, o1, u1, rfl, hb1, hu1, hc1⟩ := (HR'.out.below HB.out).at_ h0
      have hr0 : (r.map byteV)[0]? = some (byteV (r.getD 0 0)) := by rw [List.getElem?_map, List.getElem?_eq_getElem h0]; simp [List.getD, h0]
      rw [hr0] at hu1
      obtain rfl : byteV (r.getD 0 0) = u1 := by simpa using hu1
      have hwr := HB.out.size
      have hrg := ref_range r
      have hy0 := byte_lt (r.getD 0 0)
      rw [Nat.add_zero] at hc1
      have hle : l0.length + r.length ≤ b.length := by
        have h1 := congrArg List.length HE.out
        have h2 := (encL_length l0).1
        rw [List.length_append] at h1
        omega
      have HNO := Lib.hid (show ¬ refOk r → ∀ l, encL l ≠ b from fun h l hl => h (ref_has (hl.trans HE.out.symm) h0))
      clear hu1 hr0
      unfold byteV at hc1
      generalize hY0 : (r.getD 0 0).toNat = y0 at *
      by_cases h3 : 224 ≤ y0
      · have hN : refN r = 3 := by rw [refN, hY0, if_pos h3]
        by_cases hlen : r.length < 3
        · have HX := Lib.hid (HNO.out fun h => by have := h.1; rw [hN] at this; omega)
          go_wp2_with fail
          go_ret2
          exact ⟨HB.out, .inr ⟨HX.out, rfl⟩⟩
        · have hc1' := read_at (HR'.out.below HB.out) 1 (by omega)
          have hy1 := byte_lt (r.getD 1 0)
          generalize hY1 : (r.getD 1 0).toNat = y1 at *
          have hc2' := read_at (HR'.out.below HB.out) 2 (by omega)
          have hy2 := byte_lt (r.getD 2 0)
          generalize hY2 : (r.getD 2 0).toNat = y2 at *
          have hX : refU r = y0 % 16 * 4096 + y1 % 64 * 64 + y2 % 64 := by rw [refU, hY0, hY1, hY2, if_pos h3]
          have hxi : ((y0 : Int) % 16 * 4096 + (y1 : Int) % 64 * 64 + (y2 : Int) % 64 : Int) = (refU r : Int) := by rw [hX]; simp
          have hwi : IntKind.u16.wrap ((y0 : Int) % 16 * 4096 + (y1 : Int) % 64 * 64 + (y2 : Int) % 64 : Int) = (y0 : Int) % 16 * 4096 + (y1 : Int) % 64 * 64 + (y2 : Int) % 64 := u16_in (by omega) (by omega)
          have hU := Lib.hid (show ∀ W, Calls Try.prog 17 #[.int .u16 ((y0 : Int) % 16 * 4096 + (y1 : Int) % 64 * 64 + (y2 : Int) % 64)] W (UnitsSays W (encN (refU r))) from fun W => by
            have := hun.out (UInt16.ofNat (refU r)) W
            rw [encU, unit_of hrg.1] at this
            rw [hxi]
            exact this)
          have hc0 : ¬ c' = 0 := by have := HR'.out.2.1; omega
          have hc2' : (3 : Int) ≤ (c' : Int) := by have := HR'.out.2.1; omega
          have HK := Lib.hid (head_row HR'.out 3 (by omega) hc0)
          have HXI := Lib.hid hxi
          have hx := hrg.1
          clear hX hxi
          by_cases hq : (encN (refU r) == r.take 3) = true
          · have HG := Lib.hid (show refOk r from ⟨by rw [hN]; omega, by rw [hN]; exact eq_of_beq hq⟩)
            have HN := Lib.hid (ref_next HE.out HG.out)
            have HQ := Lib.hid hq
            rw [hN] at HN
            have hcut := Lib.hid (fun w => cut_l w (some ⟨b1, o1, none⟩) r.length c' 3 (by omega))
            have HC := Lib.hid (show Row w (cutA (some ⟨b1, o1, none⟩) c' 3) (r.length - 3) (c' - 3) ((r.drop 3).map byteV) from by
              have := HR'.out.cut (l := 3) (h := r.length) (by omega) (Nat.le_refl _)
              rw [List.take_of_length_le (by simp)] at this
              rw [List.map_drop]; exact this)
            have HD := Lib.hid (show (r.drop 3).length = r.length - 3 by simp)
            clear hq
            go_wp2_with fail
            go_quiet (fail)
            go_wp2_with fail
            go_region_with (first
              | (go_at_call 17; (with_reducible refine (hU.out _).mono ?_); rintro e w1 ⟨A1, m1, c1, rfl, hv, hb⟩; have HV := Lib.hid hv; have HW := Lib.hid (ubelow_next (ubelow_drew HB.out _) hb); have HWO := Lib.hid (below_of_drew hb); clear hv hb)
              | (go_at_call 16; refine (hsa.out _ _ _ _ _ _ _ _ _ HV.out (HK.out.below HW.out)).mono ?_; rintro e w2 ⟨rfl, rfl⟩; rw [HQ.out]))
            all_goals
              have hw1 := HW.out.size
              go_wp2_with (first
                | (at_builtin; refine wpList_units rfl _ _ rfl w.heap.size _ l0 [UInt16.ofNat (refU r)] rfl ((own_below HO.out HWO.out).alloc _) _ 1 1 rfl (unit_new _ HXI.out hx _ _) (by decide) (by omega) (by simp; omega) ?_; intro v' w2 hv hb; have HV2 := Lib.hid hv; have HW2 := Lib.hid ((HW.out.alloc hw1 _).trans hb); clear hv hb)
                | ((with_reducible refine wpList_slice (.slice (cutA (some ⟨b1, o1, none⟩) c' 3) (r.length - 3) (c' - 3)) ?_ ?_); exact hcut.out _))
              go_round
              case rel => exact ⟨r.drop 3, l0 ++ [UInt16.ofNat (refU r)], _, _, by rw [HD.out], Lib.hid (by rw [HD.out]; exact HC.out), HV2, HW2, HN⟩
              case measure => first | (simp; omega) | simp
          · have HX := Lib.hid (HNO.out fun h => hq (by have := h.2; rw [hN] at this; rw [this]; exact beq_self_eq_true _))
            have HQ := Lib.hid (show (encN (refU r) == r.take 3) = false by simpa using hq)
            clear hq
            go_wp2_with fail
            go_quiet (fail)
            go_wp2_with fail
            go_region_with (first
              | (go_at_call 17; (with_reducible refine (hU.out _).mono ?_); rintro e w1 ⟨A1, m1, c1, rfl, hv, hb⟩; have HV := Lib.hid hv; have HW := Lib.hid (ubelow_next (ubelow_drew HB.out _) hb); have HWO := Lib.hid (below_of_drew hb); clear hv hb)
              | (go_at_call 16; refine (hsa.out _ _ _ _ _ _ _ _ _ HV.out (HK.out.below HW.out)).mono ?_; rintro e w2 ⟨rfl, rfl⟩; rw [HQ.out]))
            all_goals
              go_wp2
              go_ret2
              exact ⟨HW.out, .inr ⟨HX.out, rfl⟩⟩
      · by_cases h2 : 192 ≤ y0
        · have hN : refN r = 2 := by rw [refN, hY0, if_neg h3, if_pos h2]
          by_cases hlen : r.length < 2
          · have HX := Lib.hid (HNO.out fun h => by have := h.1; rw [hN] at this; omega)
            go_wp2_with fail
            go_ret2
            exact ⟨HB.out, .inr ⟨HX.out, rfl⟩⟩
          · have hc1' := read_at (HR'.out.below HB.out) 1 (by omega)
            have hy1 := byte_lt (r.getD 1 0)
            generalize hY1 : (r.getD 1 0).toNat = y1 at *
            have hX : refU r = y0 % 32 * 64 + y1 % 64 := by rw [refU, hY0, hY1, if_neg h3, if_pos h2]
            have hxi : ((y0 : Int) % 32 * 64 + (y1 : Int) % 64 : Int) = (refU r : Int) := by rw [hX]; simp
            have hwi : IntKind.u16.wrap ((y0 : Int) % 32 * 64 + (y1 : Int) % 64 : Int) = (y0 : Int) % 32 * 64 + (y1 : Int) % 64 := u16_in (by omega) (by omega)
            have hU := Lib.hid (show ∀ W, Calls Try.prog 17 #[.int .u16 ((y0 : Int) % 32 * 64 + (y1 : Int) % 64)] W (UnitsSays W (encN (refU r))) from fun W => by
              have := hun.out (UInt16.ofNat (refU r)) W
              rw [encU, unit_of hrg.1] at this
              rw [hxi]
              exact this)
            have hc0 : ¬ c' = 0 := by have := HR'.out.2.1; omega
            have hc2' : (2 : Int) ≤ (c' : Int) := by have := HR'.out.2.1; omega
            have HK := Lib.hid (head_row HR'.out 2 (by omega) hc0)
            have HXI := Lib.hid hxi
            have hx := hrg.1
            clear hX hxi
            by_cases hq : (encN (refU r) == r.take 2) = true
            · have HG := Lib.hid (show refOk r from ⟨by rw [hN]; omega, by rw [hN]; exact eq_of_beq hq⟩)
              have HN := Lib.hid (ref_next HE.out HG.out)
              have HQ := Lib.hid hq
              rw [hN] at HN
              have hcut := Lib.hid (fun w => cut_l w (some ⟨b1, o1, none⟩) r.length c' 2 (by omega))
              have HC := Lib.hid (show Row w (cutA (some ⟨b1, o1, none⟩) c' 2) (r.length - 2) (c' - 2) ((r.drop 2).map byteV) from by
                have := HR'.out.cut (l := 2) (h := r.length) (by omega) (Nat.le_refl _)
                rw [List.take_of_length_le (by simp)] at this
                rw [List.map_drop]; exact this)
              have HD := Lib.hid (show (r.drop 2).length = r.length - 2 by simp)
              clear hq
              go_wp2_with fail
              go_quiet (fail)
              go_wp2_with fail
              go_region_with (first
                | (go_at_call 17; (with_reducible refine (hU.out _).mono ?_); rintro e w1 ⟨A1, m1, c1, rfl, hv, hb⟩; have HV := Lib.hid hv; have HW := Lib.hid (ubelow_next (ubelow_drew HB.out _) hb); have HWO := Lib.hid (below_of_drew hb); clear hv hb)
                | (go_at_call 16; refine (hsa.out _ _ _ _ _ _ _ _ _ HV.out (HK.out.below HW.out)).mono ?_; rintro e w2 ⟨rfl, rfl⟩; rw [HQ.out]))
              all_goals
                have hw1 := HW.out.size
                go_wp2_with (first
                  | (at_builtin; refine wpList_units rfl _ _ rfl w.heap.size _ l0 [UInt16.ofNat (refU r)] rfl ((own_below HO.out HWO.out).alloc _) _ 1 1 rfl (unit_new _ HXI.out hx _ _) (by decide) (by omega) (by simp; omega) ?_; intro v' w2 hv hb; have HV2 := Lib.hid hv; have HW2 := Lib.hid ((HW.out.alloc hw1 _).trans hb); clear hv hb)
                  | ((with_reducible refine wpList_slice (.slice (cutA (some ⟨b1, o1, none⟩) c' 2) (r.length - 2) (c' - 2)) ?_ ?_); exact hcut.out _))
                go_round
                case rel => exact ⟨r.drop 2, l0 ++ [UInt16.ofNat (refU r)], _, _, by rw [HD.out], Lib.hid (by rw [HD.out]; exact HC.out), HV2, HW2, HN⟩
                case measure => first | (simp; omega) | simp
            · have HX := Lib.hid (HNO.out fun h => hq (by have := h.2; rw [hN] at this; rw [this]; exact beq_self_eq_true _))
              have HQ := Lib.hid (show (encN (refU r) == r.take 2) = false by simpa using hq)
              clear hq
              go_wp2_with fail
              go_quiet (fail)
              go_wp2_with fail
              go_region_with (first
                | (go_at_call 17; (with_reducible refine (hU.out _).mono ?_); rintro e w1 ⟨A1, m1, c1, rfl, hv, hb⟩; have HV := Lib.hid hv; have HW := Lib.hid (ubelow_next (ubelow_drew HB.out _) hb); have HWO := Lib.hid (below_of_drew hb); clear hv hb)
                | (go_at_call 16; refine (hsa.out _ _ _ _ _ _ _ _ _ HV.out (HK.out.below HW.out)).mono ?_; rintro e w2 ⟨rfl, rfl⟩; rw [HQ.out]))
              all_goals
                go_wp2
                go_ret2
                exact ⟨HW.out, .inr ⟨HX.out, rfl⟩⟩
        · have hN : refN r = 1 := by rw [refN, hY0, if_neg h3, if_neg h2]
          have hX : refU r = y0 := by rw [refU, hY0, if_neg h3, if_neg h2]
          have hxi : ((y0 : Int) : Int) = (refU r : Int) := by rw [hX]
          have hwi : IntKind.u16.wrap ((y0 : Int) : Int) = (y0 : Int) := u16_in (by omega) (by omega)
          have hU := Lib.hid (show ∀ W, Calls Try.prog 17 #[.int .u16 ((y0 : Int))] W (UnitsSays W (encN (refU r))) from fun W => by
            have := hun.out (UInt16.ofNat (refU r)) W
            rw [encU, unit_of hrg.1] at this
            rw [hxi]
            exact this)
          have hc0 : ¬ c' = 0 := by have := HR'.out.2.1; omega
          have hc2' : (1 : Int) ≤ (c' : Int) := by have := HR'.out.2.1; omega
          have HK := Lib.hid (head_row HR'.out 1 (by omega) hc0)
          have HXI := Lib.hid hxi
          have hx := hrg.1
          clear hX hxi
          by_cases hq : (encN (refU r) == r.take 1) = true
          · have HG := Lib.hid (show refOk r from ⟨by rw [hN]; omega, by rw [hN]; exact eq_of_beq hq⟩)
            have HN := Lib.hid (ref_next HE.out HG.out)
            have HQ := Lib.hid hq
            rw [hN] at HN
            have hcut := Lib.hid (fun w => cut_l w (some ⟨b1, o1, none⟩) r.length c' 1 (by omega))
            have HC := Lib.hid (show Row w (cutA (some ⟨b1, o1, none⟩) c' 1) (r.length - 1) (c' - 1) ((r.drop 1).map byteV) from by
              have := HR'.out.cut (l := 1) (h := r.length) (by omega) (Nat.le_refl _)
              rw [List.take_of_length_le (by simp)] at this
              rw [List.map_drop]; exact this)
            have HD := Lib.hid (show (r.drop 1).length = r.length - 1 by simp)
            clear hq
            go_wp2_with fail
            go_region_with (first
              | (go_at_call 17; (with_reducible refine (hU.out _).mono ?_); rintro e w1 ⟨A1, m1, c1, rfl, hv, hb⟩; have HV := Lib.hid hv; have HW := Lib.hid (ubelow_next (ubelow_drew HB.out _) hb); have HWO := Lib.hid (below_of_drew hb); clear hv hb)
              | (go_at_call 16; refine (hsa.out _ _ _ _ _ _ _ _ _ HV.out (HK.out.below HW.out)).mono ?_; rintro e w2 ⟨rfl, rfl⟩; rw [HQ.out]))
            all_goals
              have hw1 := HW.out.size
              go_wp2_with (first
                | (at_builtin; refine wpList_units rfl _ _ rfl w.heap.size _ l0 [UInt16.ofNat (refU r)] rfl ((own_below HO.out HWO.out).alloc _) _ 1 1 rfl (unit_new _ HXI.out hx _ _) (by decide) (by omega) (by simp; omega) ?_; intro v' w2 hv hb; have HV2 := Lib.hid hv; have HW2 := Lib.hid ((HW.out.alloc hw1 _).trans hb); clear hv hb)
                | ((with_reducible refine wpList_slice (.slice (cutA (some ⟨b1, o1, none⟩) c' 1) (r.length - 1) (c' - 1)) ?_ ?_); exact hcut.out _))
              go_round
              case rel => exact ⟨r.drop 1, l0 ++ [UInt16.ofNat (refU r)], _, _, by rw [HD.out], Lib.hid (by rw [HD.out]; exact HC.out), HV2, HW2, HN⟩
              case measure => first | (simp; omega) | simp
          · have HX := Lib.hid (HNO.out fun h => hq (by have := h.2; rw [hN] at this; rw [this]; exact beq_self_eq_true _))
            have HQ := Lib.hid (show (encN (refU r) == r.take 1) = false by simpa using hq)
            clear hq
            go_wp2_with fail
            go_region_with (first
              | (go_at_call 17; (with_reducible refine (hU.out _).mono ?_); rintro e w1 ⟨A1, m1, c1, rfl, hv, hb⟩; have HV := Lib.hid hv; have HW := Lib.hid (ubelow_next (ubelow_drew HB.out _) hb); have HWO := Lib.hid (below_of_drew hb); clear hv hb)
              | (go_at_call 16; refine (hsa.out _ _ _ _ _ _ _ _ _ HV.out (HK.out.below HW.out)).mono ?_; rintro e w2 ⟨rfl, rfl⟩; rw [HQ.out]))
            all_goals
              go_wp2
              go_ret2
              exact ⟨HW.out, .inr ⟨HX.out, rfl⟩⟩
    · have hr : r = [] := List.eq_nil_of_length_eq_zero (by omega)
      subst hr
      have HX := Lib.hid (show encL l0 = b by have := HE.out; simpa using this)
      go_wp2
      go_ret2
      exact ⟨HB.out, .inl ⟨l0, _, HX.out, rfl, HO.out⟩⟩
end Go.Proofs.Ytekpinicfgofgaa
