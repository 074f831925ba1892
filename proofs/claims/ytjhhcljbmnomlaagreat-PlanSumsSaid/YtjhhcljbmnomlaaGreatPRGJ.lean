/- Package plan: the three changes of a draft, each as the document's. No conditions but the sizes. Package plan: one change of a draft, whatever its kind. No conditions but the sizes. Package plan: changes made at once: all or none. No conditions but the sizes. Slices that are handed in, of elements of any kind; reservations and rows of changes that are handed in. No conditions. Slices that are handed in, with their data: how long a row inside a slice of slices may be by the form's own reach. No conditions. Package plan: a copy of a plan. No conditions but the sizes. Package plan: what its exported functions say of a plan, by values. No conditions but the sizes. -/
import Derived.Test.YtjhhcljbmnomlaaGreatPRGI
import Derived.Test.YtjhhcljbmnomlaaGreatPRGA
import Derived.SizedLaws
namespace Go.Proofs.YtjhhcljbmnomlaaGreat
open Go.ChangeShapes Go.WideShapes Go.ChangeAt Go.RowKit
attribute [local irreducible] Go.Calls

theorem Dr.past {w w' : World} {d m : Nat} {vc : Value} {L : List Rv} (h : Dr w d m vc L) (hb : Below w.heap.size w w') : Dr w' d m vc L := by
  obtain ⟨U, rows, rvs, vs, h1, h2, h3⟩ := h.has
  exact ⟨U, rows, rvs, vs, h1.past hb, h2.past hb, stab_ld _ _ _ _ h3 hb⟩
theorem Dr.good {w : World} {d m : Nat} {vc : Value} {L : List Rv} (h : Dr w d m vc L) : GoodL L := by
  obtain ⟨U, rows, rvs, vs, h1, h2, h3⟩ := h.has
  exact h2.good
theorem Dr.lt {w : World} {d m : Nat} {vc : Value} {L : List Rv} (h : Dr w d m vc L) : d < w.heap.size := by
  obtain ⟨U, rows, rvs, vs, h1, h2, h3⟩ := h.has
  exact h1.lt
theorem Dr.ltm {w : World} {d m : Nat} {vc : Value} {L : List Rv} (h : Dr w d m vc L) : m < w.heap.size := by
  obtain ⟨U, rows, rvs, vs, h1, h2, h3⟩ := h.has
  exact h2.map.lt
def fdtR : Value → World → Prop := fun v _ => ∃ y, v = .tuple #[rwV y, .bool true] ∧ y.fit
theorem stab_fdt : Stab fdtR := fun _ _ _ h _ => h
def fdvR : Value → World → Prop := fun v _ => ∃ y, v = rwV y ∧ y.fit
theorem stab_fdv : Stab fdvR := fun _ _ _ h _ => h
/-- What one change says. -/
def OneIs (w : World) (d m : Nat) (vc : Value) (q : List Rv × Int) (e : Ending) (w' : World) : Prop := Two d m w w' ∧ e = .returned (.int .i64 q.2) ∧ (q.2 = 0 → Dr w' d m vc q.1)
theorem may_f {w : World} {x : Rw} {r : Rv} (h : RwF w x r) (hs : r.small) : Calls Tryz.prog 17 #[rwV x] w fun e w' => e = .returned (.bool r.ok) ∧ Below w.heap.size w w' := by
  obtain ⟨a, cap, e, _, _, hA⟩ := h.a.1
  have := may_c x.id x.seq x.u x.fr x.to' x.vT x.vW a cap r.A w (by rw [h.u]; exact hs.2.2.2) hs.2.2.1 hA
  rw [← e] at this
  unfold Rv.ok
  rw [← h.id, ← h.u]
  exact this
theorem one_form {L : List Rv} {k : Int} {r : Rv} (h1 : ¬ 2 < k) (h2 : k ≠ 2) (h : r.ok = false) : oneS L k r = (L, 5) := by
  unfold oneS; rw [if_neg h1, if_pos ⟨h2, h⟩]
theorem one_add_there {L : List Rv} {r : Rv} {i : Nat} (h : r.ok = true) (hi : atS L r.id = some i) : oneS L 0 r = (L, 8) := by
  unfold oneS; rw [if_neg (by omega), if_neg (by simp [h]), hi]; rfl
theorem one_add_new {L : List Rv} {r : Rv} (h : r.ok = true) (hi : atS L r.id = none) : oneS L 0 r = finS L (insS L r) := by
  unfold oneS; rw [if_neg (by omega), if_neg (by simp [h]), hi]; rfl
theorem one_put_none {L : List Rv} {r : Rv} (h : r.ok = true) (hi : atS L r.id = none) : oneS L 1 r = (L, 7) := by
  unfold oneS; rw [if_neg (by omega), if_neg (by simp [h]), hi]; rfl
theorem one_put {L : List Rv} {r : Rv} {i : Nat} (h : r.ok = true) (hi : atS L r.id = some i) : oneS L 1 r = finS L (insS (L.eraseIdx i) r) := by
  unfold oneS; rw [if_neg (by omega), if_neg (by simp [h]), hi]; rfl
theorem one_drop_none {L : List Rv} {r : Rv} (hi : atS L r.id = none) : oneS L 2 r = (L, 7) := by
  unfold oneS; rw [if_neg (by omega), if_neg (by simp), hi]; rfl
theorem one_drop {L : List Rv} {r : Rv} {i : Nat} (hi : atS L r.id = some i) : oneS L 2 r = finS L (L.eraseIdx i) := by
  unfold oneS; rw [if_neg (by omega), if_neg (by simp), hi]; rfl
theorem one_bad {L : List Rv} {k : Int} {r : Rv} (h : 2 < k) : oneS L k r = (L, 2) := by
  unfold oneS; rw [if_pos h]
/-- What stays of a reservation where a draft is written. -/
theorem keepI_two {w w' : World} {d m : Nat} {a n c} {L : List Rv} (hD : Dr w d m (.slice a n c) L) (h : Two d m w w') : KeepI w w' := by
  obtain ⟨U, rows, rvs, vs, hB, hP, hS⟩ := hD.has
  obtain ⟨avs, nvs, cvs, rfl⟩ := ldR_sli hS
  refine ⟨h.size, fun b o k i hc => h.block b (World.block_lt_of_cell? w _ hc) (fun e => ?_) (fun e => ?_)⟩
  · subst e; exact noInt_three hB o k i hc
  · subst e; exact noInt_map hP.map o k i hc
theorem rwF_two {w w' : World} {d m : Nat} {a n c} {L : List Rv} {x : Rw} {r : Rv} (hx : RwF w x r) (hD : Dr w d m (.slice a n c) L) (h : Two d m w w') : RwF w' x r := hx.keepI (keepI_two hD h)
/-- The insert, as the document's end of a change. -/
theorem insert_f {d m : Nat} {a n c} {L K : List Rv} {x : Rw} {r : Rv} (w : World) (hD : Dr w d m (.slice a n c) L) (hx : RwF w x r) (hr : r.ok = true) (hs : r.small) (hid : ∀ y ∈ L, y.id ≠ r.id) (hn : L.length < 128) :
    Calls Tryz.prog 197 #[.pointer (some ⟨d, 0, none⟩), rwV x] w (OneIs w d m (.slice a n c) (finS K (insS L r))) := by
  refine (insert_c w hD hx hr hs hid hn).mono ?_
  rintro e w' ⟨hb, ⟨h1, rfl, h2⟩ | ⟨h1, rfl⟩⟩
  · have e : finS K (insS L r) = (insS L r, 0) := by unfold finS; rw [insS_len, if_neg (by omega), if_pos h1]
    rw [e]
    exact ⟨hb, rfl, fun _ => h2⟩
  · have e : finS K (insS L r) = (K, 10) := by unfold finS; rw [insS_len, if_neg (by omega), if_neg (by rw [h1]; decide)]
    rw [e]
    exact ⟨hb, rfl, fun h => absurd h (by decide : ¬ ((10 : Int) = 0))⟩
theorem drop_f {d m : Nat} {a n c} {L : List Rv} {x : Rw} {r : Rv} (w : World) (hD : Dr w d m (.slice a n c) L) (hx : RwF w x r) (hs : r.small) :
    Calls Tryz.prog 153 #[.pointer (some ⟨d, 0, none⟩), rwV x] w (OneIs w d m (.slice a n c) (oneS L 2 r)) := by
  have hf := hx.fit (by have := hs.2.2.2; unfold maxLen; omega)
  cases hi : atS L r.id with
  | none =>
    refine (drop_none w hD hx.id hf hi).mono ?_
    rintro e w' ⟨rfl, hb⟩
    rw [one_drop_none hi]
    exact ⟨hb, rfl, fun h => absurd h (by decide : ¬ ((7 : Int) = 0))⟩
  | some i =>
    obtain ⟨hlt, _⟩ := atS_some hi
    refine (drop_some w hD hx.id hf hi (List.getElem?_eq_getElem hlt)).mono ?_
    rintro e w' ⟨rfl, hb, h2⟩
    rw [one_drop hi, finS_del (good_erase hD.good i)]
    exact ⟨hb, rfl, fun _ => h2⟩

set_option maxRecDepth 100000 in
set_option maxHeartbeats 4000000 in
theorem add_bad {d m : Nat} {a n c} {L : List Rv} {x : Rw} {r : Rv} (w : World) (hD : Dr w d m (.slice a n c) L) (hx : RwF w x r) (hs : r.small) (hr : r.ok = false) :
    Calls Tryz.prog 151 #[.pointer (some ⟨d, 0, none⟩), rwV x] w (OneIs w d m (.slice a n c) (oneS L 0 r)) := by
  have hxf := hx.fit (by have := hs.2.2.2; unfold maxLen; omega)
  obtain ⟨xi, xq, xu, xf, xt, xT, xW, xA⟩ := x
  obtain ⟨⟨a5, n5, c5, q5⟩, ⟨a6, n6, c6, q6⟩, ⟨a7, n7, c7, q7⟩, _⟩ := hxf
  simp only at q5 q6 q7
  subst q5 q6 q7
  have hds := hD.lt; have hdm := hD.ltm
  obtain ⟨w0, hw0⟩ : ∃ w0, w0 = w.alloc (Obj.cells #[.int .u32 xi, .int .u32 xq, nmV xu, .int .i64 xf, .int .i64 xt, .slice a5 n5 c5, .slice a6 n6 c6, .slice a7 n7 c7] 50) := ⟨_, rfl⟩
  obtain ⟨pb, hpb⟩ : ∃ pb, pb = w.heap.size := ⟨_, rfl⟩
  have hb0 : Below w.heap.size w w0 := by rw [hw0]; (repeat (first | exact Below.refl _ _ | assumption | refine balloc ?_ _ | refine below_drewN ?_ _ | refine bstep (by assumption) ?_ | refine bstep (Past.prop _) ?_ | refine Below.setCell ?_ (by first | exact Nat.le_refl _ | (simp; done) | (simp; omega)) _))
  have B0 : Blk w0 pb #[.int .u32 xi, .int .u32 xq, nmV xu, .int .i64 xf, .int .i64 xt, .slice a5 n5 c5, .slice a6 n6 c6, .slice a7 n7 c7] 50 := by rw [hw0, hpb]; exact Blk.made _ _ _
  have HB0 := hidE B0; have HDR := hidE (hD.past hb0); have HX := hidE (hx.past hb0); have HBB := hidE hb0
  have HS := hidE hs; have HDS := hidE hds; have HDM := hidE hdm
  have HMY := hidE (may_f (hx.past hb0) hs)
  rw [hr] at HMY
  have HR := hidE hr
  go_enter Tryz.func151, Tryz.ntmps151
  go_upto_region 1 with fail
  rw [← hw0, ← hpb]
  have b0 := B0.cell 0; have b1 := B0.cell 1; have b2 := B0.cell 2; have b3 := B0.cell 3; have b4 := B0.cell 4; have b5 := B0.cell 5; have b6 := B0.cell 6; have b7 := B0.cell 7; have bz := B0.lt
  simp at b0 b1 b2 b3 b4 b5 b6 b7
  have HPB := hidE hpb
  clear hw0 hD hx hr hb0 hpb B0 hds hdm hs
  go_wp2_with fail
  ((with_reducible refine (HMY.out).mono ?_); rintro e w1 ⟨rfl, hb1⟩)
  have HB1 := hidE hb1
  clear b0 b1 b2 b3 b4 b5 b6 b7 bz hb1 HMY
  have z1 : Two d m w w1 := two_below (HBB.out.trans (HB1.out.mono HBB.out.size))
  have HZ := hidE z1
  clear z1
  go_wp2
  go_ret
  rw [one_form (by omega) (by omega) HR.out]
  exact ⟨HZ.out, rfl, fun h => absurd h (by decide : ¬ ((5 : Int) = 0))⟩
set_option maxRecDepth 100000 in
set_option maxHeartbeats 4000000 in
theorem put_bad {d m : Nat} {a n c} {L : List Rv} {x : Rw} {r : Rv} (w : World) (hD : Dr w d m (.slice a n c) L) (hx : RwF w x r) (hs : r.small) (hr : r.ok = false) :
    Calls Tryz.prog 152 #[.pointer (some ⟨d, 0, none⟩), rwV x] w (OneIs w d m (.slice a n c) (oneS L 1 r)) := by
  have hxf := hx.fit (by have := hs.2.2.2; unfold maxLen; omega)
  obtain ⟨xi, xq, xu, xf, xt, xT, xW, xA⟩ := x
  obtain ⟨⟨a5, n5, c5, q5⟩, ⟨a6, n6, c6, q6⟩, ⟨a7, n7, c7, q7⟩, _⟩ := hxf
  simp only at q5 q6 q7
  subst q5 q6 q7
  have hds := hD.lt; have hdm := hD.ltm
  obtain ⟨w0, hw0⟩ : ∃ w0, w0 = w.alloc (Obj.cells #[.int .u32 xi, .int .u32 xq, nmV xu, .int .i64 xf, .int .i64 xt, .slice a5 n5 c5, .slice a6 n6 c6, .slice a7 n7 c7] 50) := ⟨_, rfl⟩
  obtain ⟨pb, hpb⟩ : ∃ pb, pb = w.heap.size := ⟨_, rfl⟩
  have hb0 : Below w.heap.size w w0 := by rw [hw0]; (repeat (first | exact Below.refl _ _ | assumption | refine balloc ?_ _ | refine below_drewN ?_ _ | refine bstep (by assumption) ?_ | refine bstep (Past.prop _) ?_ | refine Below.setCell ?_ (by first | exact Nat.le_refl _ | (simp; done) | (simp; omega)) _))
  have B0 : Blk w0 pb #[.int .u32 xi, .int .u32 xq, nmV xu, .int .i64 xf, .int .i64 xt, .slice a5 n5 c5, .slice a6 n6 c6, .slice a7 n7 c7] 50 := by rw [hw0, hpb]; exact Blk.made _ _ _
  have HB0 := hidE B0; have HDR := hidE (hD.past hb0); have HX := hidE (hx.past hb0); have HBB := hidE hb0
  have HS := hidE hs; have HDS := hidE hds; have HDM := hidE hdm
  have HMY := hidE (may_f (hx.past hb0) hs)
  rw [hr] at HMY
  have HR := hidE hr
  go_enter Tryz.func152, Tryz.ntmps152
  go_upto_region 1 with fail
  rw [← hw0, ← hpb]
  have b0 := B0.cell 0; have b1 := B0.cell 1; have b2 := B0.cell 2; have b3 := B0.cell 3; have b4 := B0.cell 4; have b5 := B0.cell 5; have b6 := B0.cell 6; have b7 := B0.cell 7; have bz := B0.lt
  simp at b0 b1 b2 b3 b4 b5 b6 b7
  have HPB := hidE hpb
  clear hw0 hD hx hr hb0 hpb B0 hds hdm hs
  go_wp2_with fail
  ((with_reducible refine (HMY.out).mono ?_); rintro e w1 ⟨rfl, hb1⟩)
  have HB1 := hidE hb1
  clear b0 b1 b2 b3 b4 b5 b6 b7 bz hb1 HMY
  have z1 : Two d m w w1 := two_below (HBB.out.trans (HB1.out.mono HBB.out.size))
  have HZ := hidE z1
  clear z1
  go_wp2
  go_ret
  rw [one_form (by omega) (by omega) HR.out]
  exact ⟨HZ.out, rfl, fun h => absurd h (by decide : ¬ ((5 : Int) = 0))⟩
set_option maxRecDepth 100000 in
set_option maxHeartbeats 8000000 in
theorem put_c {d m : Nat} {a n c} {L : List Rv} {x : Rw} {r : Rv} (w : World) (hD : Dr w d m (.slice a n c) L) (hx : RwF w x r) (hs : r.small) :
    Calls Tryz.prog 152 #[.pointer (some ⟨d, 0, none⟩), rwV x] w (OneIs w d m (.slice a n c) (oneS L 1 r)) := by
  cases hr : r.ok
  · exact put_bad w hD hx hs hr
  have hxf := hx.fit (by have := hs.2.2.2; unfold maxLen; omega)
  obtain ⟨xi, xq, xu, xf, xt, xT, xW, xA⟩ := x
  obtain ⟨⟨a5, n5, c5, q5⟩, ⟨a6, n6, c6, q6⟩, ⟨a7, n7, c7, q7⟩, _⟩ := hxf
  simp only at q5 q6 q7
  subst q5 q6 q7
  have hds := hD.lt; have hdm := hD.ltm
  obtain ⟨w0, hw0⟩ : ∃ w0, w0 = w.alloc (Obj.cells #[.int .u32 xi, .int .u32 xq, nmV xu, .int .i64 xf, .int .i64 xt, .slice a5 n5 c5, .slice a6 n6 c6, .slice a7 n7 c7] 50) := ⟨_, rfl⟩
  obtain ⟨pb, hpb⟩ : ∃ pb, pb = w.heap.size := ⟨_, rfl⟩
  have hb0 : Below w.heap.size w w0 := by rw [hw0]; (repeat (first | exact Below.refl _ _ | assumption | refine balloc ?_ _ | refine below_drewN ?_ _ | refine bstep (by assumption) ?_ | refine bstep (Past.prop _) ?_ | refine Below.setCell ?_ (by first | exact Nat.le_refl _ | (simp; done) | (simp; omega)) _))
  have B0 : Blk w0 pb #[.int .u32 xi, .int .u32 xq, nmV xu, .int .i64 xf, .int .i64 xt, .slice a5 n5 c5, .slice a6 n6 c6, .slice a7 n7 c7] 50 := by rw [hw0, hpb]; exact Blk.made _ _ _
  have HB0 := hidE B0; have HDR := hidE (hD.past hb0); have HX := hidE (hx.past hb0); have HBB := hidE hb0
  have HS := hidE hs; have HDS := hidE hds; have HDM := hidE hdm
  have HMY := hidE (may_f (hx.past hb0) hs)
  rw [hr] at HMY
  have HR := hidE hr
  go_enter Tryz.func152, Tryz.ntmps152
  go_upto_region 1 with fail
  rw [← hw0, ← hpb]
  have b0 := B0.cell 0; have b1 := B0.cell 1; have b2 := B0.cell 2; have b3 := B0.cell 3; have b4 := B0.cell 4; have b5 := B0.cell 5; have b6 := B0.cell 6; have b7 := B0.cell 7; have bz := B0.lt
  simp at b0 b1 b2 b3 b4 b5 b6 b7
  have HPB := hidE hpb
  clear hw0 hD hx hr hb0 hpb B0 hds hdm hs
  go_wp2_with fail
  ((with_reducible refine (HMY.out).mono ?_); rintro e w1 ⟨rfl, hb1⟩)
  have HB1 := hidE hb1
  clear b0 b1 b2 b3 b4 b5 b6 b7 bz hb1 HMY
  have hB1 := HB0.out.past HB1.out
  have b0 := hB1.cell 0; have b1 := hB1.cell 1; have b2 := hB1.cell 2; have b3 := hB1.cell 3; have b4 := hB1.cell 4; have b5 := hB1.cell 5; have b6 := hB1.cell 6; have b7 := hB1.cell 7; have bz := hB1.lt
  simp at b0 b1 b2 b3 b4 b5 b6 b7
  have HDP := hidE (drop_f w1 (HDR.out.past HB1.out) (HX.out.past HB1.out) HS.out)
  have z1 : Two d m w w1 := two_below (HBB.out.trans (HB1.out.mono HBB.out.size))
  have HZ := hidE z1
  clear z1
  cases hi : atS L r.id with
  | none =>
    rw [one_drop_none hi] at HDP
    have HPN := hidE (one_put_none HR.out hi)
    clear hi
    go_wp2_with fail
    ((with_reducible refine (HDP.out).mono ?_); rintro e w2 ⟨hb2, rfl, _⟩)
    have HZ2 := hidE (HZ.out.trans hb2)
    clear hb2 b0 b1 b2 b3 b4 b5 b6 b7 bz
    go_wp2
    go_ret
    rw [HPN.out]
    exact ⟨HZ2.out, rfl, fun h => absurd h (by decide : ¬ ((7 : Int) = 0))⟩
  | some i =>
    have hgo := HDR.out.good
    have hel := erase_len hi
    rw [one_drop hi, finS_del (good_erase hgo i)] at HDP
    have HPN := hidE (one_put HR.out hi)
    have HID := hidE (ids_erase hgo.ids hi)
    have HN := hidE (show (L.eraseIdx i).length < 128 from by have := hgo.few; omega)
    have HP1 := hidE hB1
    clear hi hgo hel
    go_wp2_with fail
    ((with_reducible refine (HDP.out).mono ?_); rintro e w2 ⟨hb2, rfl, hd2⟩)
    have HZ2 := hidE (HZ.out.trans hb2)
    have HD2 := hidE (hd2 rfl)
    have hB2 := hb2.blk HP1.out (by have := HPB.out; have := HDS.out; omega) (by have := HPB.out; have := HDM.out; omega)
    have HX2 := hidE (rwF_two (HX.out.past HB1.out) (HDR.out.past HB1.out) hb2)
    have HIN := hidE (insert_f (K := L) w2 HD2.out HX2.out HR.out HS.out HID.out HN.out)
    clear hb2 hd2 b0 b1 b2 b3 b4 b5 b6 b7 bz
    have b0 := hB2.cell 0; have b1 := hB2.cell 1; have b2 := hB2.cell 2; have b3 := hB2.cell 3; have b4 := hB2.cell 4; have b5 := hB2.cell 5; have b6 := hB2.cell 6; have b7 := hB2.cell 7; have bz := hB2.lt
    simp at b0 b1 b2 b3 b4 b5 b6 b7
    clear hB2
    go_wp2_with fail
    ((with_reducible refine (HIN.out).mono ?_); rintro e w3 ⟨hb3, rfl, hd3⟩)
    have HZ3 := hidE (HZ2.out.trans hb3)
    have HD3 := hidE hd3
    clear hb3 hd3 b0 b1 b2 b3 b4 b5 b6 b7 bz
    go_wp2
    go_ret
    rw [HPN.out]
    exact ⟨HZ3.out, rfl, HD3.out⟩
set_option maxRecDepth 100000 in
set_option maxHeartbeats 8000000 in
theorem add_there {d m : Nat} {a n c} {L : List Rv} {x : Rw} {r : Rv} (w : World) (hD : Dr w d m (.slice a n c) L) (hx : RwF w x r) (hs : r.small) {i : Nat} (hr : r.ok = true) (hi : atS L r.id = some i) :
    Calls Tryz.prog 151 #[.pointer (some ⟨d, 0, none⟩), rwV x] w (OneIs w d m (.slice a n c) (oneS L 0 r)) := by
  have hxf := hx.fit (by have := hs.2.2.2; unfold maxLen; omega)
  obtain ⟨xi, xq, xu, xf, xt, xT, xW, xA⟩ := x
  obtain ⟨⟨a5, n5, c5, q5⟩, ⟨a6, n6, c6, q6⟩, ⟨a7, n7, c7, q7⟩, _⟩ := hxf
  simp only at q5 q6 q7
  subst q5 q6 q7
  have hds := hD.lt; have hdm := hD.ltm
  obtain ⟨w0, hw0⟩ : ∃ w0, w0 = w.alloc (Obj.cells #[.int .u32 xi, .int .u32 xq, nmV xu, .int .i64 xf, .int .i64 xt, .slice a5 n5 c5, .slice a6 n6 c6, .slice a7 n7 c7] 50) := ⟨_, rfl⟩
  obtain ⟨pb, hpb⟩ : ∃ pb, pb = w.heap.size := ⟨_, rfl⟩
  have hb0 : Below w.heap.size w w0 := by rw [hw0]; (repeat (first | exact Below.refl _ _ | assumption | refine balloc ?_ _ | refine below_drewN ?_ _ | refine bstep (by assumption) ?_ | refine bstep (Past.prop _) ?_ | refine Below.setCell ?_ (by first | exact Nat.le_refl _ | (simp; done) | (simp; omega)) _))
  have B0 : Blk w0 pb #[.int .u32 xi, .int .u32 xq, nmV xu, .int .i64 xf, .int .i64 xt, .slice a5 n5 c5, .slice a6 n6 c6, .slice a7 n7 c7] 50 := by rw [hw0, hpb]; exact Blk.made _ _ _
  have HB0 := hidE B0; have HDR := hidE (hD.past hb0); have HX := hidE (hx.past hb0); have HBB := hidE hb0
  have HS := hidE hs; have HDS := hidE hds; have HDM := hidE hdm
  have HMY := hidE (may_f (hx.past hb0) hs)
  rw [hr] at HMY
  have HR := hidE hr
  go_enter Tryz.func151, Tryz.ntmps151
  go_upto_region 1 with fail
  rw [← hw0, ← hpb]
  have b0 := B0.cell 0; have b1 := B0.cell 1; have b2 := B0.cell 2; have b3 := B0.cell 3; have b4 := B0.cell 4; have b5 := B0.cell 5; have b6 := B0.cell 6; have b7 := B0.cell 7; have bz := B0.lt
  simp at b0 b1 b2 b3 b4 b5 b6 b7
  have HPB := hidE hpb
  clear hw0 hD hx hr hb0 hpb B0 hds hdm hs
  go_wp2_with fail
  ((with_reducible refine (HMY.out).mono ?_); rintro e w1 ⟨rfl, hb1⟩)
  have HB1 := hidE hb1
  clear b0 b1 b2 b3 b4 b5 b6 b7 bz hb1 HMY
  obtain ⟨U, rows, rvs, vs, hB, hP, hS⟩ := HDR.out.has
  have hBw := hB.past HB1.out
  have q0 := hBw.cell 0; have q1 := hBw.cell 1; have qz := hBw.lt
  simp at q0 q1
  have hB1 := HB0.out.past HB1.out
  have b0 := hB1.cell 0; have bz := hB1.lt
  simp at b0
  have hxi : xi = r.id := HX.out.id
  have HP1 := hidE (hP.past HB1.out); have HBX := hidE hB1
  clear hB hP hS hB1 hBw
  subst hxi
  have HFD := hidE (fun w' (hb : Below w1.heap.size w1 w') => (find_some (.slice a n c) (HP1.out.past hb) hi (List.getElem?_eq_getElem (atS_some hi).1)).mono (fun e w3 (h : ∃ y, e = .returned (.tuple #[rwV y, .bool true]) ∧ InRows U rows y ∧ y.id = (L[i]'((atS_some hi).1)).id ∧ Below w'.heap.size w' w3) => show ∃ y, e = .returned (.tuple #[rwV y, .bool true]) ∧ y.fit ∧ Below w'.heap.size w' w3 from by
    obtain ⟨y, e1, h1, h2, h3⟩ := h
    exact ⟨y, e1, HP1.out.rowFit h1 h2 (List.getElem_mem _), h3⟩))
  have HPN := hidE (one_add_there HR.out hi)
  clear hi
  go_upto_region 3 with fail
  refine wp_region_J 11 [9] (nthR [detR (.pointer (some ⟨d, 0, none⟩)), detR (.pointer (some ⟨d, 0, none⟩)), detR (.pointer (some ⟨d, 0, none⟩)), detR (ctV (.slice a n c) m), detR (.pointer (some ⟨pb, 0, none⟩)), detR (.int .u32 r.id), fdtR, fdtR, fdvR, detR (.bool true), newR w1.heap.size #[.int .u32 0, .int .u32 0, .string ⟨#[]⟩, .int .i64 0, .int .i64 0, .slice none 0 0, .slice none 0 0, .slice none 0 0] 50]) (fun _ => false) (by kernel_rfl) (by decide) (by kernel_rfl) (stab_nth (by intro r hr; simp only [List.mem_cons, List.not_mem_nil, or_false] at hr; rcases hr with rfl | rfl | rfl | rfl | rfl | rfl | rfl | rfl | rfl | rfl | rfl <;> first | exact stab_det _ | exact stab_fdt | exact stab_fdv | exact stab_new _ _ _)) ?_ ?_ ?_
  · intro i o hi ho
    match i, hi with
    | 0, _ =>
      obtain rfl := Option.some.inj ho
      intro u x hd
      have hc := Past.cell x
      simp [go_sem, gives, frm, Act.put, nthR, detR, Region.wanted, Below.refl]
    | 1, _ =>
      obtain rfl := Option.some.inj ho
      intro u x hd
      have hc := Past.cell x
      have d0 := hd 0 (by decide) (by kernel_rfl)
      simp only [nthR, detR, List.getD_cons_zero] at d0
      simp [go_sem, gives, frm, Act.put, nthR, detR, Region.wanted, Below.refl, d0]
    | 2, _ =>
      obtain rfl := Option.some.inj ho
      intro u x hd
      have hc := Past.cell x
      have d1 := hd 1 (by decide) (by kernel_rfl)
      simp only [nthR, detR, List.getD_cons_zero, List.getD_cons_succ] at d1
      simp [go_sem, gives, frm, Act.put, nthR, detR, Region.wanted, Below.refl, d1]
    | 3, _ =>
      obtain rfl := Option.some.inj ho
      intro u x hd
      have hc := Past.cell x
      have d2 := hd 2 (by decide) (by kernel_rfl)
      simp only [nthR, detR, List.getD_cons_zero, List.getD_cons_succ] at d2
      simp [go_sem, gives, frm, Act.put, nthR, detR, Region.wanted, Below.refl, hc, d2, q0, q1, qz]
    | 4, _ =>
      obtain rfl := Option.some.inj ho
      intro u x hd
      have hc := Past.cell x
      simp [go_sem, gives, frm, Act.put, nthR, detR, Region.wanted, Below.refl]
    | 5, _ =>
      obtain rfl := Option.some.inj ho
      intro u x hd
      have hc := Past.cell x
      have d4 := hd 4 (by decide) (by kernel_rfl)
      simp only [nthR, detR, List.getD_cons_zero, List.getD_cons_succ] at d4
      simp [go_sem, gives, frm, Act.put, nthR, detR, Region.wanted, Below.refl, hc, d4, b0, bz]
    | 6, _ =>
      obtain rfl := Option.some.inj ho
      intro u x hd
      have hc := Past.cell x
      have d3 := hd 3 (by decide) (by kernel_rfl)
      have d5 := hd 5 (by decide) (by kernel_rfl)
      simp only [nthR, detR, List.getD_cons_zero, List.getD_cons_succ] at d3 d5
      simp [go_sem, gives, frm, Act.put, nthR, Region.wanted, d3, d5]
      (with_reducible refine (HFD.out _ (Past.prop x)).mono ?_); rintro e w3 ⟨y, rfl, h1, hb3⟩; exact ⟨_, rfl, hb3, ⟨y, rfl, h1⟩⟩
    | 7, _ =>
      obtain rfl := Option.some.inj ho
      intro u x hd
      have hc := Past.cell x
      have h6 : fdtR (u 6) x.1 := hd 6 (by decide) (by kernel_rfl)
      simp [go_sem, gives, frm, Act.put, nthR, Region.wanted, Below.refl]
      exact h6
    | 8, _ =>
      obtain rfl := Option.some.inj ho
      intro u x hd
      have hc := Past.cell x
      have h7 : ∃ y, u 7 = .tuple #[rwV y, .bool true] ∧ y.fit := hd 7 (by decide) (by kernel_rfl)
      have e7 := h7.choose_spec.1; have hs1 := h7.choose_spec.2; generalize h7.choose = y at *
      simp [go_sem, gives, frm, Act.put, nthR, Region.wanted, Below.refl, e7]
      exact ⟨y, rfl, hs1⟩
    | 9, _ =>
      obtain rfl := Option.some.inj ho
      intro u x hd
      have hc := Past.cell x
      have h7 : ∃ y, u 7 = .tuple #[rwV y, .bool true] ∧ y.fit := hd 7 (by decide) (by kernel_rfl)
      have e7 := h7.choose_spec.1; have hs1 := h7.choose_spec.2; generalize h7.choose = y at *
      simp [go_sem, gives, frm, Act.put, nthR, Region.wanted, Below.refl, detR, e7]
    | 10, _ =>
      obtain rfl := Option.some.inj ho
      intro u x hd
      have hc := Past.cell x
      simp [go_sem, gives, nthR, Region.wanted]
      exact ⟨by (repeat (first | exact Below.refl _ _ | assumption | refine balloc ?_ _ | refine below_drewN ?_ _ | refine bstep (by assumption) ?_ | refine bstep (Past.prop _) ?_ | refine Below.setCell ?_ (by first | exact Nat.le_refl _ | (simp; done) | (simp; omega)) _)), ⟨_, rfl, (Past.prop x).size, Blk.made _ _ _⟩⟩
    | i + 11, h => exact absurd h (by omega)
  · intro i o hx ho
    simp only [List.mem_cons, List.not_mem_nil, or_false] at hx
    rcases hx with rfl
    · obtain rfl := Option.some.inj ho
      refine ⟨rfl, fun _ _ _ _ h => h, fun u x hd => ?_⟩
      have h7 : ∃ y, u 7 = .tuple #[rwV y, .bool true] ∧ y.fit := hd 7 (by decide) (by kernel_rfl)
      have e7 := h7.choose_spec.1; have hs1 := h7.choose_spec.2; generalize h7.choose = y at *
      refine ⟨rfl, .bool true, rfl, fun w' => ?_⟩
      simp [go_sem, frm, Act.put, e7]
  · intro u x9 hu hne
    obtain ⟨p5, e10, p5z, B5⟩ : newR w1.heap.size #[.int .u32 0, .int .u32 0, .string ⟨#[]⟩, .int .i64 0, .int .i64 0, .slice none 0 0, .slice none 0 0, .slice none 0 0] 50 (u 10) x9.1 := hu 10 (by decide)
    obtain ⟨y, e8, hyf⟩ : fdvR (u 8) x9.1 := hu 8 (by decide)
    have e9 : u 9 = .bool true := hu 9 (by decide)
    obtain ⟨yi, yq, yu, yf, yt, yT, yW, yA⟩ := y
    obtain ⟨⟨g5, o5, k5, z5⟩, ⟨g6, o6, k6, z6⟩, ⟨g7, o7, k7, z7⟩, hyl⟩ := hyf
    simp only at z5 z6 z7 hyl
    subst z5 z6 z7
    simp only [frm, List.take, Act.put, e8, e9, e10]
    have z1 : Below w.heap.size w w1 := HBB.out.trans (HB1.out.mono HBB.out.size)
    have z2 : Below w.heap.size w x9.1 := z1.trans (x9.2.mono z1.size)
    have HQ := hidE (below_eight z2 (show w.heap.size ≤ p5 from by have := z1.size; omega) (.int .u32 yi) (.int .u32 yq) (nmV yu) (.int .i64 yf) (.int .i64 yt) (.slice g5 o5 k5) (.slice g6 o6 k6) (.slice g7 o7 k7))
    have r0 := B5.cell 0; have r1 := B5.cell 1; have r2 := B5.cell 2; have r3 := B5.cell 3; have r4 := B5.cell 4; have r5 := B5.cell 5; have r6 := B5.cell 6; have r7 := B5.cell 7; have rf := B5.free; have rz := B5.lt
    simp at r0 r1 r2 r3 r4 r5 r6 r7
    clear hu hne e8 e9 e10 z1 z2 B5 p5z q0 q1 qz b0 bz
    generalize x9.1 = w9 at *
    go_wp2
    go_ret
    rw [HPN.out]
    exact ⟨two_below HQ.out, rfl, fun h => absurd h (by decide : ¬ ((8 : Int) = 0))⟩
set_option maxRecDepth 100000 in
set_option maxHeartbeats 8000000 in
theorem add_new {d m : Nat} {a n c} {L : List Rv} {x : Rw} {r : Rv} (w : World) (hD : Dr w d m (.slice a n c) L) (hx : RwF w x r) (hs : r.small) (hr : r.ok = true) (hi : atS L r.id = none) :
    Calls Tryz.prog 151 #[.pointer (some ⟨d, 0, none⟩), rwV x] w (OneIs w d m (.slice a n c) (oneS L 0 r)) := by
  have hxf := hx.fit (by have := hs.2.2.2; unfold maxLen; omega)
  obtain ⟨xi, xq, xu, xf, xt, xT, xW, xA⟩ := x
  obtain ⟨⟨a5, n5, c5, q5⟩, ⟨a6, n6, c6, q6⟩, ⟨a7, n7, c7, q7⟩, _⟩ := hxf
  simp only at q5 q6 q7
  subst q5 q6 q7
  have hds := hD.lt; have hdm := hD.ltm
  obtain ⟨w0, hw0⟩ : ∃ w0, w0 = w.alloc (Obj.cells #[.int .u32 xi, .int .u32 xq, nmV xu, .int .i64 xf, .int .i64 xt, .slice a5 n5 c5, .slice a6 n6 c6, .slice a7 n7 c7] 50) := ⟨_, rfl⟩
  obtain ⟨pb, hpb⟩ : ∃ pb, pb = w.heap.size := ⟨_, rfl⟩
  have hb0 : Below w.heap.size w w0 := by rw [hw0]; (repeat (first | exact Below.refl _ _ | assumption | refine balloc ?_ _ | refine below_drewN ?_ _ | refine bstep (by assumption) ?_ | refine bstep (Past.prop _) ?_ | refine Below.setCell ?_ (by first | exact Nat.le_refl _ | (simp; done) | (simp; omega)) _))
  have B0 : Blk w0 pb #[.int .u32 xi, .int .u32 xq, nmV xu, .int .i64 xf, .int .i64 xt, .slice a5 n5 c5, .slice a6 n6 c6, .slice a7 n7 c7] 50 := by rw [hw0, hpb]; exact Blk.made _ _ _
  have HB0 := hidE B0; have HDR := hidE (hD.past hb0); have HX := hidE (hx.past hb0); have HBB := hidE hb0
  have HS := hidE hs; have HDS := hidE hds; have HDM := hidE hdm
  have HMY := hidE (may_f (hx.past hb0) hs)
  rw [hr] at HMY
  have HR := hidE hr
  go_enter Tryz.func151, Tryz.ntmps151
  go_upto_region 1 with fail
  rw [← hw0, ← hpb]
  have b0 := B0.cell 0; have b1 := B0.cell 1; have b2 := B0.cell 2; have b3 := B0.cell 3; have b4 := B0.cell 4; have b5 := B0.cell 5; have b6 := B0.cell 6; have b7 := B0.cell 7; have bz := B0.lt
  simp at b0 b1 b2 b3 b4 b5 b6 b7
  have HPB := hidE hpb
  clear hw0 hD hx hr hb0 hpb B0 hds hdm hs
  go_wp2_with fail
  ((with_reducible refine (HMY.out).mono ?_); rintro e w1 ⟨rfl, hb1⟩)
  have HB1 := hidE hb1
  clear b0 b1 b2 b3 b4 b5 b6 b7 bz hb1 HMY
  obtain ⟨U, rows, rvs, vs, hB, hP, hS⟩ := HDR.out.has
  have hBw := hB.past HB1.out
  have q0 := hBw.cell 0; have q1 := hBw.cell 1; have qz := hBw.lt
  simp at q0 q1
  have hB1 := HB0.out.past HB1.out
  have b0 := hB1.cell 0; have bz := hB1.lt
  simp at b0
  have hxi : xi = r.id := HX.out.id
  have HP1 := hidE (hP.past HB1.out); have HBX := hidE hB1
  clear hB hP hS hB1 hBw
  subst hxi
  have HFD := hidE (fun w' (hb : Below w1.heap.size w1 w') => find_none (.slice a n c) (HP1.out.past hb) hi)
  have HPN := hidE (one_add_new HR.out hi)
  have HID := hidE (atS_none.1 hi)
  clear hi
  go_upto_region 3 with fail
  refine wp_region_J 11 [9] (nthR [detR (.pointer (some ⟨d, 0, none⟩)), detR (.pointer (some ⟨d, 0, none⟩)), detR (.pointer (some ⟨d, 0, none⟩)), detR (ctV (.slice a n c) m), detR (.pointer (some ⟨pb, 0, none⟩)), detR (.int .u32 r.id), detR (.tuple #[rvZ, .bool false]), detR (.tuple #[rvZ, .bool false]), detR rvZ, detR (.bool false), newR w1.heap.size #[.int .u32 0, .int .u32 0, .string ⟨#[]⟩, .int .i64 0, .int .i64 0, .slice none 0 0, .slice none 0 0, .slice none 0 0] 50]) (fun _ => false) (by kernel_rfl) (by decide) (by kernel_rfl) (stab_nth (by intro r hr; simp only [List.mem_cons, List.not_mem_nil, or_false] at hr; rcases hr with rfl | rfl | rfl | rfl | rfl | rfl | rfl | rfl | rfl | rfl | rfl <;> first | exact stab_det _ | exact stab_new _ _ _)) ?_ ?_ ?_
  · intro i o hi ho
    match i, hi with
    | 0, _ =>
      obtain rfl := Option.some.inj ho
      intro u x hd
      have hc := Past.cell x
      simp [go_sem, gives, frm, Act.put, nthR, detR, Region.wanted, Below.refl]
    | 1, _ =>
      obtain rfl := Option.some.inj ho
      intro u x hd
      have hc := Past.cell x
      have d0 := hd 0 (by decide) (by kernel_rfl)
      simp only [nthR, detR, List.getD_cons_zero] at d0
      simp [go_sem, gives, frm, Act.put, nthR, detR, Region.wanted, Below.refl, d0]
    | 2, _ =>
      obtain rfl := Option.some.inj ho
      intro u x hd
      have hc := Past.cell x
      have d1 := hd 1 (by decide) (by kernel_rfl)
      simp only [nthR, detR, List.getD_cons_zero, List.getD_cons_succ] at d1
      simp [go_sem, gives, frm, Act.put, nthR, detR, Region.wanted, Below.refl, d1]
    | 3, _ =>
      obtain rfl := Option.some.inj ho
      intro u x hd
      have hc := Past.cell x
      have d2 := hd 2 (by decide) (by kernel_rfl)
      simp only [nthR, detR, List.getD_cons_zero, List.getD_cons_succ] at d2
      simp [go_sem, gives, frm, Act.put, nthR, detR, Region.wanted, Below.refl, hc, d2, q0, q1, qz]
    | 4, _ =>
      obtain rfl := Option.some.inj ho
      intro u x hd
      have hc := Past.cell x
      simp [go_sem, gives, frm, Act.put, nthR, detR, Region.wanted, Below.refl]
    | 5, _ =>
      obtain rfl := Option.some.inj ho
      intro u x hd
      have hc := Past.cell x
      have d4 := hd 4 (by decide) (by kernel_rfl)
      simp only [nthR, detR, List.getD_cons_zero, List.getD_cons_succ] at d4
      simp [go_sem, gives, frm, Act.put, nthR, detR, Region.wanted, Below.refl, hc, d4, b0, bz]
    | 6, _ =>
      obtain rfl := Option.some.inj ho
      intro u x hd
      have hc := Past.cell x
      have d3 := hd 3 (by decide) (by kernel_rfl)
      have d5 := hd 5 (by decide) (by kernel_rfl)
      simp only [nthR, detR, List.getD_cons_zero, List.getD_cons_succ] at d3 d5
      simp [go_sem, gives, frm, Act.put, nthR, Region.wanted, d3, d5]
      (with_reducible refine (HFD.out _ (Past.prop x)).mono ?_); rintro e w3 ⟨rfl, hb3⟩; exact ⟨_, rfl, hb3, rfl⟩
    | 7, _ =>
      obtain rfl := Option.some.inj ho
      intro u x hd
      have hc := Past.cell x
      have d6 : u 6 = .tuple #[rvZ, .bool false] := hd 6 (by decide) (by kernel_rfl)
      simp [go_sem, gives, frm, Act.put, nthR, Region.wanted, Below.refl, detR, d6]
    | 8, _ =>
      obtain rfl := Option.some.inj ho
      intro u x hd
      have hc := Past.cell x
      have d7 : u 7 = .tuple #[rvZ, .bool false] := hd 7 (by decide) (by kernel_rfl)
      simp [go_sem, gives, frm, Act.put, nthR, Region.wanted, Below.refl, detR, d7]
    | 9, _ =>
      obtain rfl := Option.some.inj ho
      intro u x hd
      have hc := Past.cell x
      have d7 : u 7 = .tuple #[rvZ, .bool false] := hd 7 (by decide) (by kernel_rfl)
      simp [go_sem, gives, frm, Act.put, nthR, Region.wanted, Below.refl, detR, d7]
    | 10, _ =>
      obtain rfl := Option.some.inj ho
      intro u x hd
      have hc := Past.cell x
      simp [go_sem, gives, nthR, Region.wanted]
      exact ⟨by (repeat (first | exact Below.refl _ _ | assumption | refine balloc ?_ _ | refine below_drewN ?_ _ | refine bstep (by assumption) ?_ | refine bstep (Past.prop _) ?_ | refine Below.setCell ?_ (by first | exact Nat.le_refl _ | (simp; done) | (simp; omega)) _)), ⟨_, rfl, (Past.prop x).size, Blk.made _ _ _⟩⟩
    | i + 11, h => exact absurd h (by omega)
  · intro i o hx ho
    simp only [List.mem_cons, List.not_mem_nil, or_false] at hx
    rcases hx with rfl
    · obtain rfl := Option.some.inj ho
      refine ⟨rfl, fun _ _ _ _ h => h, fun u x hd => ?_⟩
      have d7 := hd 7 (by decide) (by kernel_rfl)
      simp only [nthR, detR, List.getD_cons_zero, List.getD_cons_succ] at d7
      refine ⟨rfl, .bool false, rfl, fun w' => ?_⟩
      simp [go_sem, frm, Act.put, d7]
  · intro u x9 hu hne
    obtain ⟨p5, e10, p5z, B5⟩ : newR w1.heap.size #[.int .u32 0, .int .u32 0, .string ⟨#[]⟩, .int .i64 0, .int .i64 0, .slice none 0 0, .slice none 0 0, .slice none 0 0] 50 (u 10) x9.1 := hu 10 (by decide)
    have e8 : u 8 = rvZ := hu 8 (by decide)
    have e9 : u 9 = .bool false := hu 9 (by decide)
    simp only [frm, List.take, Act.put, e8, e9, e10]
    obtain ⟨w8, hw8⟩ : ∃ w8, w8 = ((((((((x9.1.setCell ⟨p5, 0, none⟩ (.int .u32 0)).setCell ⟨p5, 1, none⟩ (.int .u32 0)).setCell ⟨p5, 2, none⟩ (.string ⟨#[]⟩)).setCell ⟨p5, 3, none⟩ (.int .i64 0)).setCell ⟨p5, 4, none⟩ (.int .i64 0)).setCell ⟨p5, 5, none⟩ (.slice none 0 0)).setCell ⟨p5, 6, none⟩ (.slice none 0 0)).setCell ⟨p5, 7, none⟩ (.slice none 0 0)) := ⟨_, rfl⟩
    have hb8 : Below w1.heap.size w1 w8 := by rw [hw8]; exact below_eight x9.2 p5z _ _ _ _ _ _ _ _
    have HB8 := hidE hb8
    have r0 := B5.cell 0; have r1 := B5.cell 1; have r2 := B5.cell 2; have r3 := B5.cell 3; have r4 := B5.cell 4; have r5 := B5.cell 5; have r6 := B5.cell 6; have r7 := B5.cell 7; have rf := B5.free; have rz := B5.lt
    simp at r0 r1 r2 r3 r4 r5 r6 r7
    clear hu hne e8 e9 e10 hb8 B5 p5z q0 q1 qz b0 bz HFD
    generalize x9.1 = w9 at *
    go_upto_region 6 with fail
    rw [← hw8]
    clear hw8 r0 r1 r2 r3 r4 r5 r6 r7 rf rz
    have hD8 := (HDR.out.past HB1.out).past HB8.out
    obtain ⟨U2, rows2, rvs2, vs2, hB2, hP2, hS2⟩ := hD8.has
    have q0 := hB2.cell 0; have q1 := hB2.cell 1; have qz := hB2.lt
    simp at q0 q1
    have HCT := hidE (count_b (.slice a n c) hP2)
    have HD8 := hidE hD8; have HX8 := hidE ((HX.out.past HB1.out).past HB8.out); have HBX8 := hidE (HBX.out.past HB8.out)
    have HZ8 := hidE (two_below (d := d) (m := m) ((HBB.out.trans (HB1.out.mono HBB.out.size)).trans (HB8.out.mono (by have := HBB.out.size; have := HB1.out.size; omega))))
    clear hD8 hB2 hP2 hS2
    go_wp2_with fail
    ((with_reducible refine (HCT.out).mono ?_); rintro e w10 ⟨rfl, hb10⟩)
    have HB10 := hidE hb10
    clear q0 q1 qz hb10 HCT
    by_cases hn : L.length < 128
    · have dn : decide ((128 : Int) ≤ (L.length : Int)) = false := decide_eq_false (by omega)
      have hB10 := HBX8.out.past HB10.out
      have b0 := hB10.cell 0; have b1 := hB10.cell 1; have b2 := hB10.cell 2; have b3 := hB10.cell 3; have b4 := hB10.cell 4; have b5 := hB10.cell 5; have b6 := hB10.cell 6; have b7 := hB10.cell 7; have bz := hB10.lt
      simp at b0 b1 b2 b3 b4 b5 b6 b7
      have HIN := hidE (insert_f (K := L) w10 (HD8.out.past HB10.out) (HX8.out.past HB10.out) HR.out HS.out HID.out hn)
      clear hn hB10
      go_wp2_with fail
      ((with_reducible refine (HIN.out).mono ?_); rintro e w11 ⟨hb11, rfl, hd11⟩)
      have HZ11 := hidE ((HZ8.out.trans (two_below HB10.out)).trans hb11)
      have HD11 := hidE hd11
      clear hb11 hd11 b0 b1 b2 b3 b4 b5 b6 b7 bz
      go_wp2
      go_ret
      rw [HPN.out]
      exact ⟨HZ11.out, rfl, HD11.out⟩
    · have dn : decide ((128 : Int) ≤ (L.length : Int)) = true := decide_eq_true (by omega)
      have HZ11 := hidE (HZ8.out.trans (two_below (d := d) (m := m) HB10.out))
      have HE := hidE (show finS L (insS L r) = (L, 6) from by unfold finS; rw [insS_len, if_pos (by omega)])
      clear hn
      go_wp2
      go_ret
      rw [HPN.out, HE.out]
      exact ⟨HZ11.out, rfl, fun h => absurd h (by decide : ¬ ((6 : Int) = 0))⟩
theorem add_c {d m : Nat} {a n c} {L : List Rv} {x : Rw} {r : Rv} (w : World) (hD : Dr w d m (.slice a n c) L) (hx : RwF w x r) (hs : r.small) :
    Calls Tryz.prog 151 #[.pointer (some ⟨d, 0, none⟩), rwV x] w (OneIs w d m (.slice a n c) (oneS L 0 r)) := by
  cases hr : r.ok
  · exact add_bad w hD hx hs hr
  · cases hi : atS L r.id with
    | none => exact add_new w hD hx hs hr hi
    | some i => exact add_there w hD hx hs hr hi
end Go.Proofs.YtjhhcljbmnomlaaGreat

namespace Go.Proofs.YtjhhcljbmnomlaaGreat
open Go.ChangeShapes Go.WideShapes Go.ChangeAt Go.RowKit
attribute [local irreducible] Go.Calls

attribute [local go_sem] run_store_fnZ
/-- A change. -/
abbrev chV (kd : Int) (x : Rw) : Value := .agg #[.int .u8 kd, .int .u32 x.id, .int .u32 x.seq, nmV x.u, .int .i64 x.fr, .int .i64 x.to', x.vT, x.vW, x.vA]

set_option maxRecDepth 100000 in
set_option maxHeartbeats 8000000 in
theorem change_bad {d m : Nat} {a n c} {L : List Rv} {kd : Int} {x : Rw} {r : Rv} (w : World) (hD : Dr w d m (.slice a n c) L) (hx : RwF w x r) (hs : r.small) (hk : 2 < kd) (hk2 : kd ≤ 255) :
    Calls Tryz.prog 53 #[.pointer (some ⟨d, 0, none⟩), chV kd x] w (OneIs w d m (.slice a n c) (oneS L kd r)) := by
  have HPN := hidE (one_bad (L := L) (r := r) hk)
  have dk : decide ((3 : Int) ≤ kd) = true := decide_eq_true (by omega)
  have hxf := hx.fit (by have := hs.2.2.2; unfold maxLen; omega)
  obtain ⟨xi, xq, xu, xf, xt, xT, xW, xA⟩ := x
  obtain ⟨⟨a5, n5, c5, q5⟩, ⟨a6, n6, c6, q6⟩, ⟨a7, n7, c7, q7⟩, _⟩ := hxf
  simp only at q5 q6 q7
  subst q5 q6 q7
  obtain ⟨w0, hw0⟩ : ∃ w0, w0 = w.alloc (Obj.cells #[.int .u8 kd, .int .u32 xi, .int .u32 xq, nmV xu, .int .i64 xf, .int .i64 xt, .slice a5 n5 c5, .slice a6 n6 c6, .slice a7 n7 c7] 52) := ⟨_, rfl⟩
  obtain ⟨pb, hpb⟩ : ∃ pb, pb = w.heap.size := ⟨_, rfl⟩
  have hb0 : Below w.heap.size w w0 := by rw [hw0]; (repeat (first | exact Below.refl _ _ | assumption | refine balloc ?_ _ | refine below_drewN ?_ _ | refine bstep (by assumption) ?_ | refine bstep (Past.prop _) ?_ | refine Below.setCell ?_ (by first | exact Nat.le_refl _ | (simp; done) | (simp; omega)) _))
  have B0 : Blk w0 pb #[.int .u8 kd, .int .u32 xi, .int .u32 xq, nmV xu, .int .i64 xf, .int .i64 xt, .slice a5 n5 c5, .slice a6 n6 c6, .slice a7 n7 c7] 52 := by rw [hw0, hpb]; exact Blk.made _ _ _
  have HB0 := hidE B0; have HBB := hidE hb0
  have HDR := hidE (hD.past hb0); have HX := hidE (hx.past hb0); have HS := hidE hs
  have HCH := hidE (changes_c w0)

  go_enter Tryz.func53, Tryz.ntmps53
  go_upto_region 1 with fail
  rw [← hw0, ← hpb]
  clear hw0 hD hx hb0 hpb B0 hs
  go_wp2_with fail
  ((with_reducible refine (HCH.out).mono ?_); rintro e w1 ⟨rfl, hb1⟩)
  obtain ⟨w2, hw2⟩ : ∃ w2, w2 = w1.alloc (Obj.cells chgV 170) := ⟨_, rfl⟩
  obtain ⟨p5, hp5⟩ : ∃ p5, p5 = w1.heap.size := ⟨_, rfl⟩
  have hb2 : Below w1.heap.size w1 w2 := by rw [hw2]; exact (Below.refl _ _).alloc (Nat.le_refl _) _
  have B2 : Blk w2 p5 chgV 170 := by rw [hw2, hp5]; exact Blk.made _ _ _
  have hb02 : Below w0.heap.size w0 w2 := hb1.trans (hb2.mono hb1.size)
  have HB02 := hidE hb02; have HB2 := hidE B2
  have B := Blk.made w1 #[.nilFunc, .nilFunc, .nilFunc] 170
  have n0 := B.cell 0; have n1 := B.cell 1; have n2 := B.cell 2; have nf := B.free; have nz := B.lt
  simp at n0 n1 n2
  clear hb1 hb2 hb02 B2 B
  go_upto_region 2 with fail
  rw [← hw2, ← hp5]
  clear hw2 hp5 n0 n1 n2 nf nz
  have hBX := HB0.out.past HB02.out
  have b0 := hBX.cell 0; have b1 := hBX.cell 1; have b2 := hBX.cell 2; have b3 := hBX.cell 3; have b4 := hBX.cell 4; have b5 := hBX.cell 5; have b6 := hBX.cell 6; have b7 := hBX.cell 7; have b8 := hBX.cell 8; have bz := hBX.lt
  simp at b0 b1 b2 b3 b4 b5 b6 b7 b8
  have HZ := hidE (two_below (d := d) (m := m) (HBB.out.trans (HB02.out.mono HBB.out.size)))
  clear hBX
  go_wp2
  go_ret
  rw [HPN.out]
  exact ⟨HZ.out, rfl, fun h => absurd h (by decide : ¬ ((2 : Int) = 0))⟩
set_option maxRecDepth 100000 in
set_option maxHeartbeats 8000000 in
theorem change_0 {d m : Nat} {a n c} {L : List Rv} {kd : Int} {x : Rw} {r : Rv} (w : World) (hD : Dr w d m (.slice a n c) L) (hx : RwF w x r) (hs : r.small) (hk : kd = 0) :
    Calls Tryz.prog 53 #[.pointer (some ⟨d, 0, none⟩), chV kd x] w (OneIs w d m (.slice a n c) (oneS L 0 r)) := by
  subst hk
  have hxf := hx.fit (by have := hs.2.2.2; unfold maxLen; omega)
  obtain ⟨xi, xq, xu, xf, xt, xT, xW, xA⟩ := x
  obtain ⟨⟨a5, n5, c5, q5⟩, ⟨a6, n6, c6, q6⟩, ⟨a7, n7, c7, q7⟩, _⟩ := hxf
  simp only at q5 q6 q7
  subst q5 q6 q7
  obtain ⟨w0, hw0⟩ : ∃ w0, w0 = w.alloc (Obj.cells #[.int .u8 0, .int .u32 xi, .int .u32 xq, nmV xu, .int .i64 xf, .int .i64 xt, .slice a5 n5 c5, .slice a6 n6 c6, .slice a7 n7 c7] 52) := ⟨_, rfl⟩
  obtain ⟨pb, hpb⟩ : ∃ pb, pb = w.heap.size := ⟨_, rfl⟩
  have hb0 : Below w.heap.size w w0 := by rw [hw0]; (repeat (first | exact Below.refl _ _ | assumption | refine balloc ?_ _ | refine below_drewN ?_ _ | refine bstep (by assumption) ?_ | refine bstep (Past.prop _) ?_ | refine Below.setCell ?_ (by first | exact Nat.le_refl _ | (simp; done) | (simp; omega)) _))
  have B0 : Blk w0 pb #[.int .u8 0, .int .u32 xi, .int .u32 xq, nmV xu, .int .i64 xf, .int .i64 xt, .slice a5 n5 c5, .slice a6 n6 c6, .slice a7 n7 c7] 52 := by rw [hw0, hpb]; exact Blk.made _ _ _
  have HB0 := hidE B0; have HBB := hidE hb0
  have HDR := hidE (hD.past hb0); have HX := hidE (hx.past hb0); have HS := hidE hs
  have HCH := hidE (changes_c w0)

  go_enter Tryz.func53, Tryz.ntmps53
  go_upto_region 1 with fail
  rw [← hw0, ← hpb]
  clear hw0 hD hx hb0 hpb B0 hs
  go_wp2_with fail
  ((with_reducible refine (HCH.out).mono ?_); rintro e w1 ⟨rfl, hb1⟩)
  obtain ⟨w2, hw2⟩ : ∃ w2, w2 = w1.alloc (Obj.cells chgV 170) := ⟨_, rfl⟩
  obtain ⟨p5, hp5⟩ : ∃ p5, p5 = w1.heap.size := ⟨_, rfl⟩
  have hb2 : Below w1.heap.size w1 w2 := by rw [hw2]; exact (Below.refl _ _).alloc (Nat.le_refl _) _
  have B2 : Blk w2 p5 chgV 170 := by rw [hw2, hp5]; exact Blk.made _ _ _
  have hb02 : Below w0.heap.size w0 w2 := hb1.trans (hb2.mono hb1.size)
  have HB02 := hidE hb02; have HB2 := hidE B2
  have B := Blk.made w1 #[.nilFunc, .nilFunc, .nilFunc] 170
  have n0 := B.cell 0; have n1 := B.cell 1; have n2 := B.cell 2; have nf := B.free; have nz := B.lt
  simp at n0 n1 n2
  clear hb1 hb2 hb02 B2 B
  go_upto_region 2 with fail
  rw [← hw2, ← hp5]
  clear hw2 hp5 n0 n1 n2 nf nz
  have hBX := HB0.out.past HB02.out
  have b0 := hBX.cell 0; have b1 := hBX.cell 1; have b2 := hBX.cell 2; have b3 := hBX.cell 3; have b4 := hBX.cell 4; have b5 := hBX.cell 5; have b6 := hBX.cell 6; have b7 := hBX.cell 7; have b8 := hBX.cell 8; have bz := hBX.lt
  simp at b0 b1 b2 b3 b4 b5 b6 b7 b8
  have c0 := HB2.out.cell 0; have cz := HB2.out.lt
  simp at c0
  have HZ := hidE (two_below (d := d) (m := m) (HBB.out.trans (HB02.out.mono HBB.out.size)))
  clear hBX
  go_upto_region 4 with fail
  refine wp_region_J 7 [] (nthR [detR (.pointer (some ⟨pb, 0, none⟩)), detR (.int .u8 0), detR (.pointer (some ⟨p5, 0, none⟩)), detR (.func (.func 151) #[] #[]), detR (.pointer (some ⟨d, 0, none⟩)), detR (.pointer (some ⟨pb, 1, none⟩)), detR (rwV ⟨xi, xq, xu, xf, xt, .slice a5 n5 c5, .slice a6 n6 c6, .slice a7 n7 c7⟩)]) (fun _ => false) (by kernel_rfl) (by decide) (by kernel_rfl) (stab_nth (by intro r hr; simp only [List.mem_cons, List.not_mem_nil, or_false] at hr; rcases hr with rfl | rfl | rfl | rfl | rfl | rfl | rfl <;> first | exact stab_det _)) ?_ ?_ ?_
  · intro i o hi ho
    match i, hi with
    | 0, _ =>
      obtain rfl := Option.some.inj ho
      intro u x hd
      have hc := Past.cell x
      simp [go_sem, gives, frm, Act.put, nthR, detR, Region.wanted, Below.refl]
    | 1, _ =>
      obtain rfl := Option.some.inj ho
      intro u x hd
      have hc := Past.cell x
      have d0 := hd 0 (by decide) (by kernel_rfl)
      simp only [nthR, detR, List.getD_cons_zero] at d0
      simp [go_sem, gives, frm, Act.put, nthR, detR, Region.wanted, Below.refl, hc, d0, b0, bz]
    | 2, _ =>
      obtain rfl := Option.some.inj ho
      intro u x hd
      have hc := Past.cell x
      have d1 := hd 1 (by decide) (by kernel_rfl)
      simp only [nthR, detR, List.getD_cons_zero, List.getD_cons_succ] at d1
      simp [go_sem, gives, frm, Act.put, nthR, detR, Region.wanted, Below.refl, d1]
    | 3, _ =>
      obtain rfl := Option.some.inj ho
      intro u x hd
      have hc := Past.cell x
      have d2 := hd 2 (by decide) (by kernel_rfl)
      simp only [nthR, detR, List.getD_cons_zero, List.getD_cons_succ] at d2
      simp [go_sem, gives, frm, Act.put, nthR, detR, Region.wanted, Below.refl, hc, d2, c0, cz]
    | 4, _ =>
      obtain rfl := Option.some.inj ho
      intro u x hd
      have hc := Past.cell x
      simp [go_sem, gives, frm, Act.put, nthR, detR, Region.wanted, Below.refl]
    | 5, _ =>
      obtain rfl := Option.some.inj ho
      intro u x hd
      have hc := Past.cell x
      simp [go_sem, gives, frm, Act.put, nthR, detR, Region.wanted, Below.refl]
    | 6, _ =>
      obtain rfl := Option.some.inj ho
      intro u x hd
      have hc := Past.cell x
      have d5 := hd 5 (by decide) (by kernel_rfl)
      simp only [nthR, detR, List.getD_cons_zero, List.getD_cons_succ] at d5
      simp [go_sem, gives, frm, Act.put, nthR, detR, Region.wanted, Below.refl, hc, d5, b1, b2, b3, b4, b5, b6, b7, b8, bz]
    | i + 7, h => exact absurd h (by omega)
  · intro i o hx ho
    simp at hx
  · intro u x9 hu hne
    have e3 : u 3 = .func (.func 151) #[] #[] := hu 3 (by decide)
    have e4 : u 4 = .pointer (some ⟨d, 0, none⟩) := hu 4 (by decide)
    have e6 : u 6 = rwV ⟨xi, xq, xu, xf, xt, .slice a5 n5 c5, .slice a6 n6 c6, .slice a7 n7 c7⟩ := hu 6 (by decide)
    simp only [frm, List.take, Act.put, e3, e4, e6]
    have hb9 := x9.2
    have HON := hidE (add_c x9.1 ((HDR.out.past HB02.out).past hb9) ((HX.out.past HB02.out).past hb9) HS.out)
    have HZ9 := hidE (HZ.out.trans (two_below (d := d) (m := m) hb9))
    clear hu hne e3 e4 e6 hb9 b0 b1 b2 b3 b4 b5 b6 b7 b8 bz c0 cz
    generalize x9.1 = w9 at *
    go_wp2_with fail
    ((with_reducible refine (HON.out).mono ?_); rintro e w10 ⟨hb10, rfl, hd10⟩)
    have HZ10 := hidE (HZ9.out.trans hb10)
    have HD10 := hidE hd10
    clear hb10 hd10
    go_wp2
    go_ret
    exact ⟨HZ10.out, rfl, HD10.out⟩
set_option maxRecDepth 100000 in
set_option maxHeartbeats 8000000 in
theorem change_1 {d m : Nat} {a n c} {L : List Rv} {kd : Int} {x : Rw} {r : Rv} (w : World) (hD : Dr w d m (.slice a n c) L) (hx : RwF w x r) (hs : r.small) (hk : kd = 1) :
    Calls Tryz.prog 53 #[.pointer (some ⟨d, 0, none⟩), chV kd x] w (OneIs w d m (.slice a n c) (oneS L 1 r)) := by
  subst hk
  have hxf := hx.fit (by have := hs.2.2.2; unfold maxLen; omega)
  obtain ⟨xi, xq, xu, xf, xt, xT, xW, xA⟩ := x
  obtain ⟨⟨a5, n5, c5, q5⟩, ⟨a6, n6, c6, q6⟩, ⟨a7, n7, c7, q7⟩, _⟩ := hxf
  simp only at q5 q6 q7
  subst q5 q6 q7
  obtain ⟨w0, hw0⟩ : ∃ w0, w0 = w.alloc (Obj.cells #[.int .u8 1, .int .u32 xi, .int .u32 xq, nmV xu, .int .i64 xf, .int .i64 xt, .slice a5 n5 c5, .slice a6 n6 c6, .slice a7 n7 c7] 52) := ⟨_, rfl⟩
  obtain ⟨pb, hpb⟩ : ∃ pb, pb = w.heap.size := ⟨_, rfl⟩
  have hb0 : Below w.heap.size w w0 := by rw [hw0]; (repeat (first | exact Below.refl _ _ | assumption | refine balloc ?_ _ | refine below_drewN ?_ _ | refine bstep (by assumption) ?_ | refine bstep (Past.prop _) ?_ | refine Below.setCell ?_ (by first | exact Nat.le_refl _ | (simp; done) | (simp; omega)) _))
  have B0 : Blk w0 pb #[.int .u8 1, .int .u32 xi, .int .u32 xq, nmV xu, .int .i64 xf, .int .i64 xt, .slice a5 n5 c5, .slice a6 n6 c6, .slice a7 n7 c7] 52 := by rw [hw0, hpb]; exact Blk.made _ _ _
  have HB0 := hidE B0; have HBB := hidE hb0
  have HDR := hidE (hD.past hb0); have HX := hidE (hx.past hb0); have HS := hidE hs
  have HCH := hidE (changes_c w0)

  go_enter Tryz.func53, Tryz.ntmps53
  go_upto_region 1 with fail
  rw [← hw0, ← hpb]
  clear hw0 hD hx hb0 hpb B0 hs
  go_wp2_with fail
  ((with_reducible refine (HCH.out).mono ?_); rintro e w1 ⟨rfl, hb1⟩)
  obtain ⟨w2, hw2⟩ : ∃ w2, w2 = w1.alloc (Obj.cells chgV 170) := ⟨_, rfl⟩
  obtain ⟨p5, hp5⟩ : ∃ p5, p5 = w1.heap.size := ⟨_, rfl⟩
  have hb2 : Below w1.heap.size w1 w2 := by rw [hw2]; exact (Below.refl _ _).alloc (Nat.le_refl _) _
  have B2 : Blk w2 p5 chgV 170 := by rw [hw2, hp5]; exact Blk.made _ _ _
  have hb02 : Below w0.heap.size w0 w2 := hb1.trans (hb2.mono hb1.size)
  have HB02 := hidE hb02; have HB2 := hidE B2
  have B := Blk.made w1 #[.nilFunc, .nilFunc, .nilFunc] 170
  have n0 := B.cell 0; have n1 := B.cell 1; have n2 := B.cell 2; have nf := B.free; have nz := B.lt
  simp at n0 n1 n2
  clear hb1 hb2 hb02 B2 B
  go_upto_region 2 with fail
  rw [← hw2, ← hp5]
  clear hw2 hp5 n0 n1 n2 nf nz
  have hBX := HB0.out.past HB02.out
  have b0 := hBX.cell 0; have b1 := hBX.cell 1; have b2 := hBX.cell 2; have b3 := hBX.cell 3; have b4 := hBX.cell 4; have b5 := hBX.cell 5; have b6 := hBX.cell 6; have b7 := hBX.cell 7; have b8 := hBX.cell 8; have bz := hBX.lt
  simp at b0 b1 b2 b3 b4 b5 b6 b7 b8
  have c0 := HB2.out.cell 1; have cz := HB2.out.lt
  simp at c0
  have HZ := hidE (two_below (d := d) (m := m) (HBB.out.trans (HB02.out.mono HBB.out.size)))
  clear hBX
  go_upto_region 4 with fail
  refine wp_region_J 7 [] (nthR [detR (.pointer (some ⟨pb, 0, none⟩)), detR (.int .u8 1), detR (.pointer (some ⟨p5, 1, none⟩)), detR (.func (.func 152) #[] #[]), detR (.pointer (some ⟨d, 0, none⟩)), detR (.pointer (some ⟨pb, 1, none⟩)), detR (rwV ⟨xi, xq, xu, xf, xt, .slice a5 n5 c5, .slice a6 n6 c6, .slice a7 n7 c7⟩)]) (fun _ => false) (by kernel_rfl) (by decide) (by kernel_rfl) (stab_nth (by intro r hr; simp only [List.mem_cons, List.not_mem_nil, or_false] at hr; rcases hr with rfl | rfl | rfl | rfl | rfl | rfl | rfl <;> first | exact stab_det _)) ?_ ?_ ?_
  · intro i o hi ho
    match i, hi with
    | 0, _ =>
      obtain rfl := Option.some.inj ho
      intro u x hd
      have hc := Past.cell x
      simp [go_sem, gives, frm, Act.put, nthR, detR, Region.wanted, Below.refl]
    | 1, _ =>
      obtain rfl := Option.some.inj ho
      intro u x hd
      have hc := Past.cell x
      have d0 := hd 0 (by decide) (by kernel_rfl)
      simp only [nthR, detR, List.getD_cons_zero] at d0
      simp [go_sem, gives, frm, Act.put, nthR, detR, Region.wanted, Below.refl, hc, d0, b0, bz]
    | 2, _ =>
      obtain rfl := Option.some.inj ho
      intro u x hd
      have hc := Past.cell x
      have d1 := hd 1 (by decide) (by kernel_rfl)
      simp only [nthR, detR, List.getD_cons_zero, List.getD_cons_succ] at d1
      simp [go_sem, gives, frm, Act.put, nthR, detR, Region.wanted, Below.refl, d1]
    | 3, _ =>
      obtain rfl := Option.some.inj ho
      intro u x hd
      have hc := Past.cell x
      have d2 := hd 2 (by decide) (by kernel_rfl)
      simp only [nthR, detR, List.getD_cons_zero, List.getD_cons_succ] at d2
      simp [go_sem, gives, frm, Act.put, nthR, detR, Region.wanted, Below.refl, hc, d2, c0, cz]
    | 4, _ =>
      obtain rfl := Option.some.inj ho
      intro u x hd
      have hc := Past.cell x
      simp [go_sem, gives, frm, Act.put, nthR, detR, Region.wanted, Below.refl]
    | 5, _ =>
      obtain rfl := Option.some.inj ho
      intro u x hd
      have hc := Past.cell x
      simp [go_sem, gives, frm, Act.put, nthR, detR, Region.wanted, Below.refl]
    | 6, _ =>
      obtain rfl := Option.some.inj ho
      intro u x hd
      have hc := Past.cell x
      have d5 := hd 5 (by decide) (by kernel_rfl)
      simp only [nthR, detR, List.getD_cons_zero, List.getD_cons_succ] at d5
      simp [go_sem, gives, frm, Act.put, nthR, detR, Region.wanted, Below.refl, hc, d5, b1, b2, b3, b4, b5, b6, b7, b8, bz]
    | i + 7, h => exact absurd h (by omega)
  · intro i o hx ho
    simp at hx
  · intro u x9 hu hne
    have e3 : u 3 = .func (.func 152) #[] #[] := hu 3 (by decide)
    have e4 : u 4 = .pointer (some ⟨d, 0, none⟩) := hu 4 (by decide)
    have e6 : u 6 = rwV ⟨xi, xq, xu, xf, xt, .slice a5 n5 c5, .slice a6 n6 c6, .slice a7 n7 c7⟩ := hu 6 (by decide)
    simp only [frm, List.take, Act.put, e3, e4, e6]
    have hb9 := x9.2
    have HON := hidE (put_c x9.1 ((HDR.out.past HB02.out).past hb9) ((HX.out.past HB02.out).past hb9) HS.out)
    have HZ9 := hidE (HZ.out.trans (two_below (d := d) (m := m) hb9))
    clear hu hne e3 e4 e6 hb9 b0 b1 b2 b3 b4 b5 b6 b7 b8 bz c0 cz
    generalize x9.1 = w9 at *
    go_wp2_with fail
    ((with_reducible refine (HON.out).mono ?_); rintro e w10 ⟨hb10, rfl, hd10⟩)
    have HZ10 := hidE (HZ9.out.trans hb10)
    have HD10 := hidE hd10
    clear hb10 hd10
    go_wp2
    go_ret
    exact ⟨HZ10.out, rfl, HD10.out⟩
set_option maxRecDepth 100000 in
set_option maxHeartbeats 8000000 in
theorem change_2 {d m : Nat} {a n c} {L : List Rv} {kd : Int} {x : Rw} {r : Rv} (w : World) (hD : Dr w d m (.slice a n c) L) (hx : RwF w x r) (hs : r.small) (hk : kd = 2) :
    Calls Tryz.prog 53 #[.pointer (some ⟨d, 0, none⟩), chV kd x] w (OneIs w d m (.slice a n c) (oneS L 2 r)) := by
  subst hk
  have hxf := hx.fit (by have := hs.2.2.2; unfold maxLen; omega)
  obtain ⟨xi, xq, xu, xf, xt, xT, xW, xA⟩ := x
  obtain ⟨⟨a5, n5, c5, q5⟩, ⟨a6, n6, c6, q6⟩, ⟨a7, n7, c7, q7⟩, _⟩ := hxf
  simp only at q5 q6 q7
  subst q5 q6 q7
  obtain ⟨w0, hw0⟩ : ∃ w0, w0 = w.alloc (Obj.cells #[.int .u8 2, .int .u32 xi, .int .u32 xq, nmV xu, .int .i64 xf, .int .i64 xt, .slice a5 n5 c5, .slice a6 n6 c6, .slice a7 n7 c7] 52) := ⟨_, rfl⟩
  obtain ⟨pb, hpb⟩ : ∃ pb, pb = w.heap.size := ⟨_, rfl⟩
  have hb0 : Below w.heap.size w w0 := by rw [hw0]; (repeat (first | exact Below.refl _ _ | assumption | refine balloc ?_ _ | refine below_drewN ?_ _ | refine bstep (by assumption) ?_ | refine bstep (Past.prop _) ?_ | refine Below.setCell ?_ (by first | exact Nat.le_refl _ | (simp; done) | (simp; omega)) _))
  have B0 : Blk w0 pb #[.int .u8 2, .int .u32 xi, .int .u32 xq, nmV xu, .int .i64 xf, .int .i64 xt, .slice a5 n5 c5, .slice a6 n6 c6, .slice a7 n7 c7] 52 := by rw [hw0, hpb]; exact Blk.made _ _ _
  have HB0 := hidE B0; have HBB := hidE hb0
  have HDR := hidE (hD.past hb0); have HX := hidE (hx.past hb0); have HS := hidE hs
  have HCH := hidE (changes_c w0)

  go_enter Tryz.func53, Tryz.ntmps53
  go_upto_region 1 with fail
  rw [← hw0, ← hpb]
  clear hw0 hD hx hb0 hpb B0 hs
  go_wp2_with fail
  ((with_reducible refine (HCH.out).mono ?_); rintro e w1 ⟨rfl, hb1⟩)
  obtain ⟨w2, hw2⟩ : ∃ w2, w2 = w1.alloc (Obj.cells chgV 170) := ⟨_, rfl⟩
  obtain ⟨p5, hp5⟩ : ∃ p5, p5 = w1.heap.size := ⟨_, rfl⟩
  have hb2 : Below w1.heap.size w1 w2 := by rw [hw2]; exact (Below.refl _ _).alloc (Nat.le_refl _) _
  have B2 : Blk w2 p5 chgV 170 := by rw [hw2, hp5]; exact Blk.made _ _ _
  have hb02 : Below w0.heap.size w0 w2 := hb1.trans (hb2.mono hb1.size)
  have HB02 := hidE hb02; have HB2 := hidE B2
  have B := Blk.made w1 #[.nilFunc, .nilFunc, .nilFunc] 170
  have n0 := B.cell 0; have n1 := B.cell 1; have n2 := B.cell 2; have nf := B.free; have nz := B.lt
  simp at n0 n1 n2
  clear hb1 hb2 hb02 B2 B
  go_upto_region 2 with fail
  rw [← hw2, ← hp5]
  clear hw2 hp5 n0 n1 n2 nf nz
  have hBX := HB0.out.past HB02.out
  have b0 := hBX.cell 0; have b1 := hBX.cell 1; have b2 := hBX.cell 2; have b3 := hBX.cell 3; have b4 := hBX.cell 4; have b5 := hBX.cell 5; have b6 := hBX.cell 6; have b7 := hBX.cell 7; have b8 := hBX.cell 8; have bz := hBX.lt
  simp at b0 b1 b2 b3 b4 b5 b6 b7 b8
  have c0 := HB2.out.cell 2; have cz := HB2.out.lt
  simp at c0
  have HZ := hidE (two_below (d := d) (m := m) (HBB.out.trans (HB02.out.mono HBB.out.size)))
  clear hBX
  go_upto_region 4 with fail
  refine wp_region_J 7 [] (nthR [detR (.pointer (some ⟨pb, 0, none⟩)), detR (.int .u8 2), detR (.pointer (some ⟨p5, 2, none⟩)), detR (.func (.func 153) #[] #[]), detR (.pointer (some ⟨d, 0, none⟩)), detR (.pointer (some ⟨pb, 1, none⟩)), detR (rwV ⟨xi, xq, xu, xf, xt, .slice a5 n5 c5, .slice a6 n6 c6, .slice a7 n7 c7⟩)]) (fun _ => false) (by kernel_rfl) (by decide) (by kernel_rfl) (stab_nth (by intro r hr; simp only [List.mem_cons, List.not_mem_nil, or_false] at hr; rcases hr with rfl | rfl | rfl | rfl | rfl | rfl | rfl <;> first | exact stab_det _)) ?_ ?_ ?_
  · intro i o hi ho
    match i, hi with
    | 0, _ =>
      obtain rfl := Option.some.inj ho
      intro u x hd
      have hc := Past.cell x
      simp [go_sem, gives, frm, Act.put, nthR, detR, Region.wanted, Below.refl]
    | 1, _ =>
      obtain rfl := Option.some.inj ho
      intro u x hd
      have hc := Past.cell x
      have d0 := hd 0 (by decide) (by kernel_rfl)
      simp only [nthR, detR, List.getD_cons_zero] at d0
      simp [go_sem, gives, frm, Act.put, nthR, detR, Region.wanted, Below.refl, hc, d0, b0, bz]
    | 2, _ =>
      obtain rfl := Option.some.inj ho
      intro u x hd
      have hc := Past.cell x
      have d1 := hd 1 (by decide) (by kernel_rfl)
      simp only [nthR, detR, List.getD_cons_zero, List.getD_cons_succ] at d1
      simp [go_sem, gives, frm, Act.put, nthR, detR, Region.wanted, Below.refl, d1]
    | 3, _ =>
      obtain rfl := Option.some.inj ho
      intro u x hd
      have hc := Past.cell x
      have d2 := hd 2 (by decide) (by kernel_rfl)
      simp only [nthR, detR, List.getD_cons_zero, List.getD_cons_succ] at d2
      simp [go_sem, gives, frm, Act.put, nthR, detR, Region.wanted, Below.refl, hc, d2, c0, cz]
    | 4, _ =>
      obtain rfl := Option.some.inj ho
      intro u x hd
      have hc := Past.cell x
      simp [go_sem, gives, frm, Act.put, nthR, detR, Region.wanted, Below.refl]
    | 5, _ =>
      obtain rfl := Option.some.inj ho
      intro u x hd
      have hc := Past.cell x
      simp [go_sem, gives, frm, Act.put, nthR, detR, Region.wanted, Below.refl]
    | 6, _ =>
      obtain rfl := Option.some.inj ho
      intro u x hd
      have hc := Past.cell x
      have d5 := hd 5 (by decide) (by kernel_rfl)
      simp only [nthR, detR, List.getD_cons_zero, List.getD_cons_succ] at d5
      simp [go_sem, gives, frm, Act.put, nthR, detR, Region.wanted, Below.refl, hc, d5, b1, b2, b3, b4, b5, b6, b7, b8, bz]
    | i + 7, h => exact absurd h (by omega)
  · intro i o hx ho
    simp at hx
  · intro u x9 hu hne
    have e3 : u 3 = .func (.func 153) #[] #[] := hu 3 (by decide)
    have e4 : u 4 = .pointer (some ⟨d, 0, none⟩) := hu 4 (by decide)
    have e6 : u 6 = rwV ⟨xi, xq, xu, xf, xt, .slice a5 n5 c5, .slice a6 n6 c6, .slice a7 n7 c7⟩ := hu 6 (by decide)
    simp only [frm, List.take, Act.put, e3, e4, e6]
    have hb9 := x9.2
    have HON := hidE (drop_f x9.1 ((HDR.out.past HB02.out).past hb9) ((HX.out.past HB02.out).past hb9) HS.out)
    have HZ9 := hidE (HZ.out.trans (two_below (d := d) (m := m) hb9))
    clear hu hne e3 e4 e6 hb9 b0 b1 b2 b3 b4 b5 b6 b7 b8 bz c0 cz
    generalize x9.1 = w9 at *
    go_wp2_with fail
    ((with_reducible refine (HON.out).mono ?_); rintro e w10 ⟨hb10, rfl, hd10⟩)
    have HZ10 := hidE (HZ9.out.trans hb10)
    have HD10 := hidE hd10
    clear hb10 hd10
    go_wp2
    go_ret
    exact ⟨HZ10.out, rfl, HD10.out⟩
theorem change_c {d m : Nat} {a n c} {L : List Rv} {kd : Int} {x : Rw} {r : Rv} (w : World) (hD : Dr w d m (.slice a n c) L) (hx : RwF w x r) (hs : r.small) (hk : 0 ≤ kd) (hk2 : kd ≤ 255) :
    Calls Tryz.prog 53 #[.pointer (some ⟨d, 0, none⟩), chV kd x] w (OneIs w d m (.slice a n c) (oneS L kd r)) := by
  rcases (show kd = 0 ∨ kd = 1 ∨ kd = 2 ∨ 2 < kd from by omega) with rfl | rfl | rfl | h
  · exact change_0 w hD hx hs rfl
  · exact change_1 w hD hx hs rfl
  · exact change_2 w hD hx hs rfl
  · exact change_bad w hD hx hs h hk2
end Go.Proofs.YtjhhcljbmnomlaaGreat

namespace Go.Proofs.YtjhhcljbmnomlaaGreat
open Go.ChangeShapes Go.WideShapes Go.ChangeAt Go.RowKit
attribute [local irreducible] Go.Calls

abbrev Cw := Int × Rw
def cw0 : Cw := (0, rw0)
abbrev cwCells (q : Cw) : List Value := .int .u8 q.1 :: q.2.cells
/-- A slice that reads as a row of changes. -/
def SliCh (w : World) (v : Value) (l : List Cw) : Prop := ∃ (a : Option Addr) (cap : Nat), v = .slice a l.length cap ∧ l.length ≤ cap ∧ cap ≤ 9223372036854775807 ∧
  (0 < l.length → ∃ b off, a = some ⟨b, off, none⟩ ∧ b < w.heap.size ∧ ∀ i j, i < l.length → j < 9 → w.cell? ⟨b, off + i * 9 + j, none⟩ = (cwCells (l.getD i cw0))[j]?)
theorem SliCh.past {w w' : World} {v : Value} {l : List Cw} (h : SliCh w v l) (hb : Below w.heap.size w w') : SliCh w' v l := by
  obtain ⟨a, cap, e, h1, h2, h3⟩ := h
  refine ⟨a, cap, e, h1, h2, fun hl => ?_⟩
  obtain ⟨b, off, e2, h6, h7⟩ := h3 hl
  exact ⟨b, off, e2, Nat.lt_of_lt_of_le h6 hb.size, fun i j hi hj => (hb.cell (p := ⟨b, _, none⟩) h6).trans (h7 i j hi hj)⟩
/-- The changes that it says. -/
structure ChsF (w : World) (l : List Cw) (cs : List (Int × Rv)) : Prop where
  len : cs.length = l.length
  kd : ∀ i, i < l.length → (l.getD i cw0).1 = (cs.getD i (0, rv0)).1 ∧ 0 ≤ (l.getD i cw0).1 ∧ (l.getD i cw0).1 ≤ 255
  rv : ∀ i, i < l.length → RwF w (l.getD i cw0).2 (cs.getD i (0, rv0)).2
  small : ∀ i, i < l.length → (cs.getD i (0, rv0)).2.small
theorem ChsF.past {w w' : World} {l : List Cw} {cs : List (Int × Rv)} (h : ChsF w l cs) (hb : Below w.heap.size w w') : ChsF w' l cs := ⟨h.len, h.kd, fun i hi => (h.rv i hi).past hb, h.small⟩
/-- What a plan has. -/
structure Pl (w : World) (p : Nat) (L : List Rv) (C : List Sg) : Prop where
  has : ∃ m vc U rows rvs, Blk w p #[vc, .map (some m)] 111 ∧ SliF3 w vc C ∧ Body w m U rows rvs L
theorem Pl.past {w w' : World} {p : Nat} {L : List Rv} {C : List Sg} (h : Pl w p L C) (hb : Below w.heap.size w w') : Pl w' p L C := by
  obtain ⟨m, vc, U, rows, rvs, h1, h2, h3⟩ := h.has
  exact ⟨m, vc, U, rows, rvs, h1.past hb, h2.past hb, h3.past hb⟩
theorem Pl.good {w : World} {p : Nat} {L : List Rv} {C : List Sg} (h : Pl w p L C) : GoodL L := by
  obtain ⟨m, vc, U, rows, rvs, h1, h2, h3⟩ := h.has
  exact h3.good
theorem Pl.noInt {w : World} {p : Nat} {L : List Rv} {C : List Sg} (h : Pl w p L C) : NoInt w p := by
  obtain ⟨m, vc, U, rows, rvs, h1, ⟨⟨a, c, rfl, _⟩, _⟩, h3⟩ := h.has
  exact noInt_two h1
theorem runS_ok_take {cs : List (Int × Rv)} {L : List Rv} {k : Nat} (hk : k < cs.length) (h : (runS L (cs.take k)).2 = 0) : runS L (cs.take (k + 1)) = if (oneS (runS L (cs.take k)).1 (cs.getD k (0, rv0)).1 (cs.getD k (0, rv0)).2).2 = 0 then oneS (runS L (cs.take k)).1 (cs.getD k (0, rv0)).1 (cs.getD k (0, rv0)).2 else ((runS L (cs.take k)).1, (oneS (runS L (cs.take k)).1 (cs.getD k (0, rv0)).1 (cs.getD k (0, rv0)).2).2) := by
  rw [List.take_succ_eq_append_getElem hk, runS_snoc _ _ _ h, List.getD_eq_getElem?_getD, List.getElem?_eq_getElem hk]; rfl
theorem doP_bad {cs : List (Int × Rv)} {L : List Rv} {k : Nat} {e : Int} (_hk : k ≤ cs.length) (h : (runS L (cs.take k)).2 = e) (he : e ≠ 0) : doP L cs = (L, e) := by
  have h2 : (runS L cs).2 = e := by
    have := runS_bad (cs.take k) (cs.drop k) L (by rw [h]; exact he)
    rw [List.take_append_drop] at this
    rw [this, h]
  unfold doP
  rw [if_neg (by rw [h2]; exact he), h2]
/-- A list of all rows. -/
def lstR (rows : List UInt8 → List Rw) (U : List Ent) : Value → World → Prop := fun v w => ∃ l, SliRw w v l ∧ l.Perm (allRw rows U)
theorem stab_lst (rows : List UInt8 → List Rw) (U : List Ent) : Stab (lstR rows U) := fun _ _ _ ⟨l, h, hp⟩ hb => ⟨l, h.past hb, hp⟩
def ldP (M : List (List Sg)) : Value → World → Prop := fun v w => ldR M v w
def drvR (vc : Value) (B : Nat) (U : List Ent) (M : List (List Sg)) : Value → World → Prop := fun v w => ∃ m vs, v = .agg #[vc, .map (some m), vs] ∧ B ≤ m ∧ MapU w m U ∧ ldR M vs w
theorem stab_drv (vc : Value) (B : Nat) (U : List Ent) (M : List (List Sg)) : Stab (drvR vc B U M) := fun _ _ _ ⟨m, vs, e, h1, h2, h3⟩ hb => ⟨m, vs, e, h1, h2.past hb, stab_ld _ _ _ _ h3 hb⟩
theorem Body.load {w : World} {m : Nat} {U : List Ent} {rows : List UInt8 → List Rw} {rvs : List UInt8 → List Rv} {L : List Rv} (h : Body w m U rows rvs L) {v : Value} {l : List Rw} (hv : SliRw w v l) (hp : l.Perm (allRw rows U)) : Calls Tryz.prog 51 #[v] w (LoadIs w (fnsS L)) := by
  obtain ⟨R, hRp, hRF⟩ := rwsF_perm hp.symm _ (rwsF_all h.vals U)
  have hRL : R.Perm L := hRp.trans h.perm
  have hok : ∀ r ∈ R, r.ok = true := fun r hr => h.good.ok r (hRL.mem_iff.1 hr)
  have hl : l.length ≤ 128 := by rw [hp.length_eq, h.all_len]; exact h.good.few
  have hlen := lenR_le hok
  have hRl := hRF.1
  refine (load_c l.length l (fnsS R) v w (Nat.le_refl _) hv hRF.fns (fns_pos hok) (inR_perm (hRL.symm.map (·.A)) h.good.inR) (by omega) (by omega)).mono ?_
  rintro e w' ⟨v', rfl, h1, h2⟩
  exact ⟨v', rfl, ldR_perm (L := fnsS R) (M := fnsS L) (List.Perm.map Rv.A hRL) h1, h2⟩

/-- What Do says. -/
def DoIs (w : World) (p : Nat) (L : List Rv) (C : List Sg) (cs : List (Int × Rv)) (e : Ending) (w' : World) : Prop := e = .returned (.int .i64 (doP L cs).2) ∧ w.grownBy w' (some p) ∧ Pl w' p (doP L cs).1 C ∧ ((doP L cs).2 ≠ 0 → Below w.heap.size w w')
set_option maxRecDepth 100000 in
set_option maxHeartbeats 16000000 in
theorem do_c {p : Nat} {L : List Rv} {C : List Sg} {v : Value} {l : List Cw} {cs : List (Int × Rv)} (w : World) (hP : Pl w p L C) (hv : SliCh w v l) (hc : ChsF w l cs) (hl : l.length ≤ 1000000) :
    Calls Tryz.prog 14 #[.pointer (some ⟨p, 0, none⟩), v] w (DoIs w p L C cs) := by
  obtain ⟨m, vc, U, rows, rvs, hB, hC, hBd⟩ := hP.has
  obtain ⟨ac, cc, evc, _⟩ := id hC.1
  subst evc
  obtain ⟨av, cv, rfl, hv1, hv2, hv3⟩ := hv
  have HMD := hidE (made_c w hB)
  have HB := hidE hB; have HC := hidE hC; have HBD := hidE hBd; have HV3 := hidE hv3; have HCS := hidE hc
  have HPL := hidE hP
  clear hP hB hC hBd hv3 hc
  go_enter Tryz.func14, Tryz.ntmps14
  go_wp2_with fail
  ((with_reducible refine (HMD.out).mono ?_); rintro e w1 ⟨rfl, hb1⟩)
  have hB1 := HB.out.past hb1
  have q0 := hB1.cell 0; have q1 := hB1.cell 1; have qz := hB1.lt
  simp at q0 q1
  have HBD1 := hidE (HBD.out.past hb1); have HB1 := hidE hb1
  clear hB1 hb1 HMD
  go_upto_region 3 with fail
  have HLL := hidE (show (allRw rows U).length ≤ 100000000 from by rw [HBD1.out.all_len]; have := HBD1.out.good.few; omega)
  refine wp_region_J 13 [] (nthR [detR (.pointer (some ⟨p, 0, none⟩)), detR (.pointer (some ⟨p, 0, none⟩)), detR (.pointer (some ⟨p, 0, none⟩)), detR (ctV (.slice ac C.length cc) m), ctR (.slice ac C.length cc) w1.heap.size U, detR (.pointer (some ⟨p, 0, none⟩)), detR (.pointer (some ⟨p, 0, none⟩)), detR (.pointer (some ⟨p, 0, none⟩)), detR (ctV (.slice ac C.length cc) m), lstR rows U, ldP (fnsS L), drvR (.slice ac C.length cc) w1.heap.size U (fnsS L), newR w1.heap.size #[.slice none 0 0, .map none, .slice none 0 0] 117]) (fun _ => false) (by kernel_rfl) (by decide) (by kernel_rfl) (stab_nth (by intro r hr; simp only [List.mem_cons, List.not_mem_nil, or_false] at hr; rcases hr with rfl | rfl | rfl | rfl | rfl | rfl | rfl | rfl | rfl | rfl | rfl | rfl | rfl <;> first | exact stab_det _ | exact stab_ct _ _ _ | exact stab_lst _ _ | exact stab_ld _ | exact stab_drv _ _ _ _ | exact stab_new _ _ _)) ?_ ?_ ?_
  · intro i o hi ho
    match i, hi with
    | 0, _ =>
      obtain rfl := Option.some.inj ho
      intro u x hd
      have hc := Past.cell x
      simp [go_sem, gives, frm, Act.put, nthR, detR, Region.wanted, Below.refl]
    | 1, _ =>
      obtain rfl := Option.some.inj ho
      intro u x hd
      have hc := Past.cell x
      have d0 := hd 0 (by decide) (by kernel_rfl)
      simp only [nthR, detR, List.getD_cons_zero] at d0
      simp [go_sem, gives, frm, Act.put, nthR, detR, Region.wanted, Below.refl, d0]
    | 2, _ =>
      obtain rfl := Option.some.inj ho
      intro u x hd
      have hc := Past.cell x
      have d1 := hd 1 (by decide) (by kernel_rfl)
      simp only [nthR, detR, List.getD_cons_zero, List.getD_cons_succ] at d1
      simp [go_sem, gives, frm, Act.put, nthR, detR, Region.wanted, Below.refl, d1]
    | 3, _ =>
      obtain rfl := Option.some.inj ho
      intro u x hd
      have hc := Past.cell x
      have d2 := hd 2 (by decide) (by kernel_rfl)
      simp only [nthR, detR, List.getD_cons_zero, List.getD_cons_succ] at d2
      simp [go_sem, gives, frm, Act.put, nthR, detR, Region.wanted, Below.refl, hc, d2, q0, q1, qz]
    | 4, _ =>
      obtain rfl := Option.some.inj ho
      intro u x hd
      have hc := Past.cell x
      have d3 := hd 3 (by decide) (by kernel_rfl)
      simp only [nthR, detR, List.getD_cons_zero, List.getD_cons_succ] at d3
      simp [go_sem, gives, frm, Act.put, nthR, Region.wanted, d3]
      (with_reducible refine (shared_c ac C.length cc _ (HBD1.out.past (Past.prop x)).map).mono ?_); rintro e w3 ⟨m2, rfl, h1, h2, hb3⟩; exact ⟨_, rfl, hb3, ⟨m2, rfl, Nat.le_trans (Past.prop x).size h2, h1⟩⟩
    | 5, _ =>
      obtain rfl := Option.some.inj ho
      intro u x hd
      have hc := Past.cell x
      simp [go_sem, gives, frm, Act.put, nthR, detR, Region.wanted, Below.refl]
    | 6, _ =>
      obtain rfl := Option.some.inj ho
      intro u x hd
      have hc := Past.cell x
      have d5 := hd 5 (by decide) (by kernel_rfl)
      simp only [nthR, detR, List.getD_cons_zero, List.getD_cons_succ] at d5
      simp [go_sem, gives, frm, Act.put, nthR, detR, Region.wanted, Below.refl, d5]
    | 7, _ =>
      obtain rfl := Option.some.inj ho
      intro u x hd
      have hc := Past.cell x
      have d6 := hd 6 (by decide) (by kernel_rfl)
      simp only [nthR, detR, List.getD_cons_zero, List.getD_cons_succ] at d6
      simp [go_sem, gives, frm, Act.put, nthR, detR, Region.wanted, Below.refl, d6]
    | 8, _ =>
      obtain rfl := Option.some.inj ho
      intro u x hd
      have hc := Past.cell x
      have d7 := hd 7 (by decide) (by kernel_rfl)
      simp only [nthR, detR, List.getD_cons_zero, List.getD_cons_succ] at d7
      simp [go_sem, gives, frm, Act.put, nthR, detR, Region.wanted, Below.refl, hc, d7, q0, q1, qz]
    | 9, _ =>
      obtain rfl := Option.some.inj ho
      intro u x hd
      have hc := Past.cell x
      have d8 := hd 8 (by decide) (by kernel_rfl)
      simp only [nthR, detR, List.getD_cons_zero, List.getD_cons_succ] at d8
      simp [go_sem, gives, frm, Act.put, nthR, Region.wanted, d8]
      (with_reducible refine (list_c sortC (.slice ac C.length cc) _ (HBD1.out.past (Past.prop x)).map (HBD1.out.past (Past.prop x)).ok HLL.out).mono ?_); rintro e w3 ⟨v, l2, rfl, hb3, hp, _, ho⟩; exact ⟨_, rfl, hb3, ⟨l2, sliRw_own ho (fun y hy => HBD1.out.ok.fits y (hp.mem_iff.1 hy)), hp⟩⟩
    | 10, _ =>
      obtain rfl := Option.some.inj ho
      intro u x hd
      have hc := Past.cell x
      have h9 : ∃ l2, SliRw x.1 (u 9) l2 ∧ l2.Perm (allRw rows U) := hd 9 (by decide) (by kernel_rfl)
      have hs9 := h9.choose_spec.1; have hp9 := h9.choose_spec.2; generalize h9.choose = l2 at *
      obtain ⟨a9, c9, e9, _⟩ := id hs9
      rw [e9] at hs9
      simp [go_sem, gives, frm, Act.put, nthR, Region.wanted, e9]
      (with_reducible refine ((HBD1.out.past (Past.prop x)).load hs9 hp9).mono ?_); rintro e w3 ⟨v, rfl, h1, hb3⟩; exact ⟨_, rfl, hb3, h1⟩
    | 11, _ =>
      obtain rfl := Option.some.inj ho
      intro u x hd
      have hc := Past.cell x
      have h4 : ∃ m2, u 4 = ctV (.slice ac C.length cc) m2 ∧ w1.heap.size ≤ m2 ∧ MapU x.1 m2 U := hd 4 (by decide) (by kernel_rfl)
      have e4 := h4.choose_spec.1; have hm4 := h4.choose_spec.2; generalize h4.choose = m2 at *
      have h10 : ldR (fnsS L) (u 10) x.1 := hd 10 (by decide) (by kernel_rfl)
      obtain ⟨a10, n10, c10, e10⟩ := ldR_sli h10
      rw [e10] at h10
      simp [go_sem, gives, frm, Act.put, nthR, Region.wanted, Below.refl, e4, e10]
      exact ⟨m2, _, rfl, hm4.1, hm4.2, h10⟩
    | 12, _ =>
      obtain rfl := Option.some.inj ho
      intro u x hd
      have hc := Past.cell x
      simp [go_sem, gives, nthR, Region.wanted]
      exact ⟨by (repeat (first | exact Below.refl _ _ | assumption | refine balloc ?_ _ | refine below_drewN ?_ _ | refine bstep (by assumption) ?_ | refine bstep (Past.prop _) ?_ | refine Below.setCell ?_ (by first | exact Nat.le_refl _ | (simp; done) | (simp; omega)) _)), ⟨_, rfl, (Past.prop x).size, Blk.made _ _ _⟩⟩
    | i + 13, h => exact absurd h (by omega)
  · intro i o hx ho
    simp at hx
  · intro u x9 hu hne
    obtain ⟨d, e12, hdz, BD⟩ : newR w1.heap.size #[.slice none 0 0, .map none, .slice none 0 0] 117 (u 12) x9.1 := hu 12 (by decide)
    obtain ⟨m2, vs, e11, hmz, hM2, hld⟩ : drvR (.slice ac C.length cc) w1.heap.size U (fnsS L) (u 11) x9.1 := hu 11 (by decide)
    obtain ⟨a0, n0, c0, rfl⟩ := ldR_sli hld
    simp only [frm, List.take, Act.put, e11, e12]
    have hbd9 := HBD1.out.past x9.2
    obtain ⟨w8, hw8⟩ : ∃ w8, w8 = (((x9.1.setCell ⟨d, 0, none⟩ (.slice ac C.length cc)).setCell ⟨d, 1, none⟩ (.map (some m2))).setCell ⟨d, 2, none⟩ (.slice a0 n0 c0)) := ⟨_, rfl⟩
    have hg8 : x9.1.grownBy w8 (some d) := by rw [hw8]; exact grown_trans (grown_trans (grown_set _ _ _ _) (grown_set _ _ _ _)) (grown_set _ _ _ _)
    have hni : NoInt x9.1 d := noInt_three BD
    have hbd8 : Body w8 m2 U rows rvs L := ({ hbd9 with map := hM2 } : Body x9.1 m2 U rows rvs L).keepI hg8 hni (hM2.ne_blk BD)
    have B8 : Blk w8 d #[.slice ac C.length cc, .map (some m2), .slice a0 n0 c0] 117 := by
      rw [hw8]
      simpa using ((BD.set 0 (.slice ac C.length cc)).set 1 (.map (some m2))).set 2 (.slice a0 n0 c0)
    have hD8 : Dr w8 d m2 (.slice ac C.length cc) L := ⟨U, rows, rvs, _, B8, hbd8, ldR_keepI hld (keepI_grown hg8 hni)⟩
    have z1 : Below w.heap.size w x9.1 := HB1.out.trans (x9.2.mono HB1.out.size)
    have z2 : Below w.heap.size w w8 := Below.grown z1 hg8 z1.size (fun k e => by cases e; have := HB1.out.size; omega)
    have HD8 := hidE hD8; have HZ2 := hidE z2
    have HDZ := hidE (show w.heap.size ≤ d from by have := HB1.out.size; omega); have HMZ := hidE (show w.heap.size ≤ m2 from by have := HB1.out.size; omega)
    have r0 := BD.cell 0; have r1 := BD.cell 1; have r2 := BD.cell 2; have rf := BD.free; have rz := BD.lt
    simp at r0 r1 r2
    clear hu hne e11 e12 hM2 hld hbd9 hg8 hni hbd8 B8 hD8 z1 z2 BD q0 q1 qz HBD1 HB1 HBD HLL hdz hmz
    generalize x9.1 = w9 at *
    go_upto_region 5 with fail
    rw [← hw8]
    clear hw8 r0 r1 r2 rf rz
    go_loopw [26] (fun s wr => ∃ (k : Nat), s = .int .i64 k ∧ k ≤ l.length ∧ (runS L (cs.take k)).2 = 0 ∧ Dr wr d m2 (.slice ac C.length cc) (runS L (cs.take k)).1 ∧ Below w.heap.size w wr) (fun s _ => l.length - (intOf s).toNat)
    case atStart => exact ⟨0, rfl, Nat.zero_le _, rfl, HD8.out, HZ2.out⟩
    case round =>
      obtain ⟨k, rfl, hk, hr0, hDk, hbk⟩ := hrel
      have HR0 := hidE hr0; have HDK := hidE hDk; have HBK := hidE hbk
      by_cases hlt : k < l.length
      · obtain ⟨b, off, rfl, hbz, hcc⟩ := HV3.out (by omega)
        have hlc : k < cs.length := by rw [HCS.out.len]; exact hlt
        have hst := runS_ok_take hlc hr0
        have hx := (HCS.out.rv k hlt).past hbk
        have hsm := HCS.out.small k hlt
        obtain ⟨hkd, hk0, hk5⟩ := HCS.out.kd k hlt
        have hbr : b < wr.heap.size := Nat.lt_of_lt_of_le hbz hbk.size
        have e0 := hcc k 0 hlt (by omega); have e1 := hcc k 1 hlt (by omega); have e2 := hcc k 2 hlt (by omega); have e3 := hcc k 3 hlt (by omega); have e4 := hcc k 4 hlt (by omega); have e5 := hcc k 5 hlt (by omega); have e6 := hcc k 6 hlt (by omega); have e7 := hcc k 7 hlt (by omega); have e8 := hcc k 8 hlt (by omega)
        rw [← hbk.cell hbz] at e0 e1 e2 e3 e4 e5 e6 e7 e8
        rw [← hkd] at hst
        generalize hq : cs.getD k (0, rv0) = q at *
        generalize l.getD k cw0 = y at *
        obtain ⟨kd, x⟩ := y
        simp only [cwCells, Rw.cells] at e0 e1 e2 e3 e4 e5 e6 e7 e8
        simp at e0 e1 e2 e3 e4 e5 e6 e7 e8
        simp only at hk0 hk5 hx hst
        clear hkd
        have hxf := hx.fit (by have := hsm.2.2.2; unfold maxLen; omega)
        obtain ⟨xi, xq, xu, xf, xt, xT, xW, xA⟩ := x
        obtain ⟨⟨a5, n5, c5, q5⟩, ⟨a6, n6, c6, q6⟩, ⟨a7, n7, c7, q7⟩, _⟩ := hxf
        simp only at q5 q6 q7 e0 e1 e2 e3 e4 e5 e6 e7 e8
        subst q5 q6 q7
        obtain ⟨w4, hw4⟩ : ∃ w4, w4 = wr.alloc (Obj.cells #[.int .u8 kd, .int .u32 xi, .int .u32 xq, nmV xu, .int .i64 xf, .int .i64 xt, .slice a5 n5 c5, .slice a6 n6 c6, .slice a7 n7 c7] 52) := ⟨_, rfl⟩
        have B4 : Blk w4 wr.heap.size #[.int .u8 kd, .int .u32 xi, .int .u32 xq, nmV xu, .int .i64 xf, .int .i64 xt, .slice a5 n5 c5, .slice a6 n6 c6, .slice a7 n7 c7] 52 := by rw [hw4]; exact Blk.made _ _ _
        have hb4 : Below wr.heap.size wr w4 := by rw [hw4]; exact (Below.refl _ _).alloc (Nat.le_refl _) _
        have HCG := hidE (change_c w4 (hDk.past hb4) (hx.past hb4) hsm hk0 hk5)
        have HB4 := hidE (hbk.trans (hb4.mono hbk.size))
        have HST := hidE hst
        have HLC := hidE hlc
        go_upto_region 7 with fail
        rw [← hw4]
        clear hw4
        have b0 := B4.cell 0; have b1 := B4.cell 1; have b2 := B4.cell 2; have b3 := B4.cell 3; have b4 := B4.cell 4; have b5 := B4.cell 5; have b6 := B4.cell 6; have b7 := B4.cell 7; have b8 := B4.cell 8; have bz := B4.lt
        simp at b0 b1 b2 b3 b4 b5 b6 b7 b8
        clear e0 e1 e2 e3 e4 e5 e6 e7 e8 B4 hb4 hx hsm hst hcc hDk hbk hr0 hk0 hk5 hlc HD8 hq
        go_wp2_with fail
        ((with_reducible refine (HCG.out).mono ?_); rintro e w5 ⟨hb5, rfl, hd5⟩)
        have HB5 := hidE (HB4.out.trans (hb5.below HDZ.out HMZ.out HB4.out.size))
        have HD5 := hidE hd5
        clear hb5 hd5 b0 b1 b2 b3 b4 b5 b6 b7 b8 bz HCG
        generalize oneS (runS L (cs.take k)).1 kd q.2 = z at *
        by_cases hz : z.2 = 0
        · have dz : (z.2 != 0) = false := by rw [bne_eq_false_iff_eq]; exact hz
          have hd5 := HD5.out hz
          have hst := HST.out
          rw [if_pos hz] at hst
          have HQ := hidE (And.intro hst (And.intro hz hd5))
          clear hz hd5 hst
          go_wp2
          exact ⟨⟨k + 1, by go_num, by omega, by rw [HQ.out.1]; exact HQ.out.2.1, by rw [HQ.out.1]; exact HQ.out.2.2, HB5.out⟩, by simp [intOf]; omega⟩
        · have dz : (z.2 != 0) = true := bne_iff_ne.2 hz
          have hst := HST.out
          rw [if_neg hz] at hst
          have HQ := hidE (doP_bad (L := L) (cs := cs) (k := k + 1) (e := z.2) (by have := HLC.out; omega) (by rw [hst]) hz)
          have HPP := hidE (HPL.out.past HB5.out)
          clear hz hst
          go_wp2
          go_ret
          unfold DoIs
          rw [HQ.out]
          exact ⟨rfl, grown_any HB5.out, HPP.out, fun _ => HB5.out⟩
      · have hkl : k = l.length := by omega
        have hr0 := HR0.out
        have hDk := HDK.out
        rw [List.take_of_length_le (by rw [HCS.out.len]; omega)] at hr0 hDk
        have hdo : doP L cs = runS L cs := by unfold doP; rw [if_pos hr0]
        obtain ⟨U2, rows2, rvs2, vs2, hBd2, hP2, _⟩ := hDk.has
        have hBp := HB.out.past HBK.out
        obtain ⟨wf, hwf⟩ : ∃ wf, wf = (wr.setCell ⟨p, 0, none⟩ (.slice ac C.length cc)).setCell ⟨p, 1, none⟩ (.map (some m2)) := ⟨_, rfl⟩
        have hgf : wr.grownBy wf (some p) := by rw [hwf]; exact grown_trans (grown_set _ _ _ _) (grown_set _ _ _ _)
        have hni : NoInt wr p := noInt_two hBp
        have hPf := hP2.keepI hgf hni (hP2.map.ne_blk hBp)
        have hBf : Blk wf p #[.slice ac C.length cc, .map (some m2)] 111 := by
          rw [hwf]
          simpa using (hBp.set 0 (.slice ac C.length cc)).set 1 (.map (some m2))
        have hCf := (HC.out.past HBK.out).keepI (keepI_grown hgf hni)
        have HQ := hidE (show DoIs w p L C cs (.returned (.int .i64 0)) wf from by
          unfold DoIs
          rw [hdo, hr0]
          exact ⟨rfl, grown_trans (grown_any HBK.out) hgf, ⟨_, _, _, _, _, hBf, hCf, hPf⟩, fun h => absurd rfl h⟩)
        have d0 := hBd2.cell 0; have d1 := hBd2.cell 1; have dz := hBd2.lt
        have p0 := hBp.cell 0; have p1 := hBp.cell 1; have pf := hBp.free; have pz := hBp.lt
        simp at d0 d1 p0 p1
        rw [hwf] at HQ
        clear hkl hr0 hDk hdo hP2 hgf hni hPf hBf hCf hBd2 hBp hwf HD8 hbk
        go_wp2
        go_ret
        exact HQ.out
end Go.Proofs.YtjhhcljbmnomlaaGreat

namespace Go.Proofs.YtjhhcljbmnomlaaGreat
open Go.ChangeShapes Go.WideShapes Go.ChangeAt Go.RowKit
section
variable {H : Type} {enc : TypeId × Value → H} {P : Program}
theorem addr_add (b x y : Nat) : (⟨b, x, none⟩ : Addr).add y = ⟨b, x + y, none⟩ := by
  unfold Addr.add
  by_cases c : y = 0
  · subst c; simp
  · simp [c]
/-- A slice: its elements, each by its cells. -/
theorem trod_sli {ts e : TypeId} {sz : Nat} {W : World} {cs : List Value} {x : DataW H × List MemPlace} {fuel : Nat} (hs : P.underlying ts = some (.slice e)) (ce : P.cellsOf e = sz) (h0 : 0 < sz) (hf : DataW.trod enc P W 0 (fun _ => true) true fuel ts cs = some x) :
    ∃ (n : Nat) (a : Option Addr) (cap : Nat) (g : Nat → List Value), cs = [.slice a n cap] ∧ n ≤ cap ∧ cap ≤ 9223372036854775807 ∧ (a = none → n = 0 ∧ cap = 0) ∧
      (∀ i, i < n → (g i).length = sz ∧ ∃ k y, DataW.trod enc P W 0 (fun _ => true) true k e (g i) = some y) ∧
      (0 < n → ∃ b off, a = some ⟨b, off, none⟩ ∧ b < W.heap.size ∧ ∀ i j, i < n → j < sz → W.cell? ⟨b, off + i * sz + j, none⟩ = (g i)[j]?) := by
  rcases Deep.open_slice hs hf with ⟨hcs, _⟩ | ⟨a', len, cap, m, n, D, Pl, hcs, _, hlc, hcm, hm, _, hx⟩
  · exact ⟨0, none, 0, fun _ => [], hcs, by omega, by omega, fun _ => ⟨rfl, rfl⟩, fun i hi => by omega, fun h => by omega⟩
  · have hlen : len ≤ m := by rw [hm]; simpa using hlc
    have each : ∀ i, i < len → ∃ l : List Value, (l.length = sz ∧ (∃ k y, DataW.trod enc P W 0 (fun _ => true) true k e l = some y)) ∧ ∀ j, j < sz → W.cell? ((a'.add (i * sz)).add j) = l[j]? := fun i hi' => by
      obtain ⟨cs', hc, ht⟩ := hx i (by omega)
      rw [ce] at hc
      obtain ⟨_, hcl, hat⟩ := World.cells?_some hc
      refine ⟨cs', ⟨hcl, _, _, ht⟩, fun j hj => ?_⟩
      exact hat j hj
    obtain ⟨F, hF⟩ := Deep.choose_lt each
    refine ⟨len, some a', cap, F, hcs, by omega, by unfold maxLen at hcm; omega, (fun e => by cases e), fun i hi => (hF i hi).1, fun hl => ?_⟩
    have hc00 := (hF 0 hl).2 0 h0
    rw [List.getElem?_eq_getElem (by rw [(hF 0 hl).1.1]; exact h0)] at hc00
    obtain ⟨b, off, spot⟩ := a'
    have hsp : spot = none := by
      cases spot with
      | none => rfl
      | some s => simp [Addr.add, World.cell?] at hc00; split at hc00 <;> simp at hc00
    subst hsp
    have hb : b < W.heap.size := by
      apply Nat.lt_of_not_le
      intro hge
      simp [Addr.add, World.cell?, Array.getElem?_eq_none hge] at hc00
    refine ⟨b, off, rfl, hb, fun i j hi hj => ?_⟩
    have := (hF i hi).2 j hj
    rw [addr_add, addr_add] at this
    exact this
end
section
variable {H : Type} {enc : TypeId × Value → H} {W : World}
set_option maxRecDepth 100000 in
theorem cellsOp : Tryz.prog.cellsOf 177 = 5 ∧ Tryz.prog.cellsOf 180 = 2 ∧ Tryz.prog.cellsOf 105 = 3 ∧ Tryz.prog.cellsOf 65 = 2 ∧ Tryz.prog.cellsOf 47 = 3 ∧ Tryz.prog.cellsOf 50 = 8 ∧ Tryz.prog.cellsOf 52 = 9 ∧ Tryz.prog.cellsOf 9 = 1 ∧ Tryz.prog.cellsOf 45 = 1 ∧ Tryz.prog.cellsOf 48 = 1 ∧ Tryz.prog.cellsOf 22 = 1 ∧ Tryz.prog.cellsOf 37 = 1 :=
  ⟨by kernel_rfl, by kernel_rfl, by kernel_rfl, by kernel_rfl, by kernel_rfl, by kernel_rfl, by kernel_rfl, by kernel_rfl, by kernel_rfl, by kernel_rfl, by kernel_rfl, by kernel_rfl⟩
abbrev Tr (enc : TypeId × Value → H) (W : World) (k : Nat) (t : TypeId) (cs : List Value) (y : DataW H × List MemPlace) : Prop := DataW.trod enc Tryz.prog W 0 (fun _ => true) true k t cs = some y
set_option maxRecDepth 100000 in
theorem el_part {cs : List Value} {k : Nat} {y : DataW H × List MemPlace} (h : Tr enc W k 177 cs y) (hl : cs.length = 5) : ∃ x : Prt, cs = [.int .u8 x.kind, .int .u32 x.n, .int .u32 x.g, .int .i64 x.d, .int .i64 x.kids] := by
  obtain ⟨ys, n', _, _, hl1, hyl, hfs⟩ := DataW.trod_struct Tryz.underlying177 h
  have h0 := hfs 0 _ rfl
  have h1 := hfs 1 _ rfl
  have h2 := hfs 2 _ rfl
  have h3 := hfs 3 _ rfl
  have h4 := hfs 4 _ rfl
  simp only [List.getElem_toArray, List.getElem_cons_zero, List.getElem_cons_succ] at h0 h1 h2 h3 h4
  simp only [cells4.1, cells4.2.1, cells4.2.2.1, cells4.2.2.2] at h0 h1 h2 h3 h4
  match cs, hl with
  | [c0, c1, c2, c3, c4], _ =>
    match ys, hyl with
    | [y0, y1, y2, y3, y4], _ =>
      simp at h0 h1 h2 h3 h4
      obtain ⟨z0, e0, _, w0⟩ := DataW.trod_int Tryz.underlying5 h0
      obtain ⟨z1, e1, _, w1⟩ := DataW.trod_int Tryz.underlying44 h1
      obtain ⟨z2, e2, _, w2⟩ := DataW.trod_int Tryz.underlying44 h2
      obtain ⟨z3, e3, _, w3⟩ := DataW.trod_int Tryz.underlying2 h3
      obtain ⟨z4, e4, _, w4⟩ := DataW.trod_int Tryz.underlying3 h4
      simp at e0 e1 e2 e3 e4
      subst e0 e1 e2 e3 e4
      have b0 := wfU8 w0
      have b1 := wfU32 w1
      have b2 := wfU32 w2
      exact ⟨⟨z0.toNat, z1.toNat, z2.toNat, z3, z4⟩, by simp only [Int.toNat_of_nonneg b0.1, Int.toNat_of_nonneg b1.1, Int.toNat_of_nonneg b2.1]⟩
set_option maxRecDepth 100000 in
theorem el_piece {cs : List Value} {k : Nat} {y : DataW H × List MemPlace} (h : Tr enc W k 180 cs y) (hl : cs.length = 2) : ∃ x : Int × Int, cs = [.int .i64 x.1, .int .i64 x.2] := by
  obtain ⟨ys, n', _, _, hl1, hyl, hfs⟩ := DataW.trod_struct Tryz.underlying180 h
  have h0 := hfs 0 _ rfl
  have h1 := hfs 1 _ rfl
  simp only [List.getElem_toArray, List.getElem_cons_zero, List.getElem_cons_succ] at h0 h1
  simp only [cells4.2.2.1, cells4.2.2.2] at h0 h1
  match cs, hl with
  | [c0, c1], _ =>
    match ys, hyl with
    | [y0, y1], _ =>
      simp at h0 h1
      obtain ⟨z0, e0, _, w0⟩ := DataW.trod_int Tryz.underlying3 h0
      obtain ⟨z1, e1, _, w1⟩ := DataW.trod_int Tryz.underlying2 h1
      simp at e0 e1
      subst e0 e1
      exact ⟨(z0, z1), rfl⟩
set_option maxRecDepth 100000 in
theorem el_seg {cs : List Value} {k : Nat} {y : DataW H × List MemPlace} (h : Tr enc W k 105 cs y) (hl : cs.length = 3) : ∃ x : Sg, cs = [.int .i64 x.1, .int .i64 x.2.1, .int .i64 x.2.2] := by
  obtain ⟨ys, n', _, _, hl1, hyl, hfs⟩ := DataW.trod_struct Tryz.underlying105 h
  have h0 := hfs 0 _ rfl
  have h1 := hfs 1 _ rfl
  simp only [List.getElem_toArray, List.getElem_cons_zero, List.getElem_cons_succ] at h0 h1
  simp only [cells4.2.2.1, cellsOp.2.2.2.1] at h0 h1
  match cs, hl with
  | [c0, c1, c2], _ =>
    match ys, hyl with
    | [y0, y1], _ =>
      simp at h0 h1
      obtain ⟨z0, e0, _, w0⟩ := DataW.trod_int Tryz.underlying2 h0
      obtain ⟨zs, n2, _, _, hl2, hzl, hgs⟩ := DataW.trod_struct Tryz.underlying65 h1
      have k0 := hgs 0 _ rfl
      have k1 := hgs 1 _ rfl
      simp only [List.getElem_toArray, List.getElem_cons_zero, List.getElem_cons_succ] at k0 k1
      simp only [cells4.2.2.1] at k0 k1
      match zs, hzl with
      | [q0, q1], _ =>
        simp at k0 k1
        obtain ⟨z1, e1, _, w1⟩ := DataW.trod_int Tryz.underlying2 k0
        obtain ⟨z2, e2, _, w2⟩ := DataW.trod_int Tryz.underlying2 k1
        simp at e0 e1 e2
        subst e0 e1 e2
        exact ⟨(z0, z1, z2), rfl⟩
omit H enc in
theorem srcV_of {sz n cap : Nat} {a : Option Addr} {ys : List Value} (h0 : 0 < sz) (hy : ys.length = n * sz) (h1 : ∀ u ∈ ys, u.oneCell' = true) (hn : a = none → n = 0 ∧ cap = 0) (hc : 0 < n → ∃ b off, a = some ⟨b, off, none⟩ ∧ ∀ i j, i < n → j < sz → W.cell? ⟨b, off + i * sz + j, none⟩ = ys[i * sz + j]?) : SrcV W sz (.slice a n cap) n ys := by
  refine ⟨a, cap, rfl, hn, hy, h1, fun ad ha j u hu => ?_⟩
  have hj : j < n * sz := by
    obtain ⟨hlt, _⟩ := List.getElem?_eq_some_iff.1 hu
    omega
  have hn0 : 0 < n := by
    rcases Nat.eq_zero_or_pos n with h | h
    · subst h; simp at hj
    · exact h
  obtain ⟨b, off, e, hcc⟩ := hc hn0
  rw [ha] at e
  cases e
  have hd : j / sz < n := Nat.div_lt_of_lt_mul (by rw [Nat.mul_comm]; exact hj)
  have := hcc (j / sz) (j % sz) hd (Nat.mod_lt _ h0)
  have e2 : j / sz * sz + j % sz = j := by rw [Nat.mul_comm]; exact Nat.div_add_mod j sz
  rw [addr_add, show off + j = off + j / sz * sz + j % sz from by omega, this, e2]
  exact hu
set_option maxRecDepth 100000 in
theorem sliP_of {cs : List Value} {k : Nat} {y : DataW H × List MemPlace} (h : Tr enc W k 45 cs y) : ∃ (v : Value) (l : List Prt), cs = [v] ∧ SliP W v l ∧ SrcV W 5 v l.length (cellsOfP l) := by
  obtain ⟨n, a, cap, g, rfl, h1, h2, h3, h4, h5⟩ := trod_sli (P := Tryz.prog) Tryz.underlying45 (sz := 5) cellsOp.1 (by omega) h
  have each : ∀ i, i < n → ∃ x : Prt, g i = [.int .u8 x.kind, .int .u32 x.n, .int .u32 x.g, .int .i64 x.d, .int .i64 x.kids] := fun i hi => by
    obtain ⟨hl, k', y', ht⟩ := h4 i hi
    exact el_part ht hl
  obtain ⟨F, hF⟩ := Deep.choose_lt each
  have hget : ∀ i, i < n → ((List.range n).map F).getD i pr0 = F i := fun i hi => by simp [List.getD_eq_getElem?_getD, hi]
  have hln : ((List.range n).map F).length = n := by simp
  refine ⟨.slice a n cap, (List.range n).map F, rfl, ⟨a, cap, by rw [hln], by rw [hln]; exact h1, h2, fun hp => ?_⟩, ?_⟩
  · rw [hln] at hp
    obtain ⟨b, off, e, hb, hc⟩ := h5 hp
    refine ⟨b, off, e, hb, fun i hi => ?_⟩
    rw [hln] at hi
    rw [hget i hi]
    have hf := hF i hi
    have c0 := hc i 0 hi (by omega); have c1 := hc i 1 hi (by omega); have c2 := hc i 2 hi (by omega); have c3 := hc i 3 hi (by omega); have c4 := hc i 4 hi (by omega)
    rw [hf] at c0 c1 c2 c3 c4
    simp at c0 c1 c2 c3 c4
    exact ⟨c0, c1, c2, c3, c4⟩
  · rw [hln]
    refine srcV_of (by omega) (by rw [cellsOfP_len, hln]) (cellsOfP_one _) h3 fun hp => ?_
    obtain ⟨b, off, e, hb, hc⟩ := h5 hp
    refine ⟨b, off, e, fun i j hi hj => ?_⟩
    have hg := cellsOfP_get ((List.range n).map F) i (by rw [hln]; exact hi)
    rw [hget i hi] at hg
    rw [hc i j hi hj, hF i hi]
    match j, hj with
    | 0, _ => exact hg.1.symm
    | 1, _ => exact hg.2.1.symm
    | 2, _ => exact hg.2.2.1.symm
    | 3, _ => exact hg.2.2.2.1.symm
    | 4, _ => exact hg.2.2.2.2.symm
set_option maxRecDepth 100000 in
theorem sliVs_of {cs : List Value} {k : Nat} {y : DataW H × List MemPlace} (h : Tr enc W k 48 cs y) : ∃ (v : Value) (l : List (Int × Int)), cs = [v] ∧ SliVs W v l ∧ SrcV W 2 v l.length (cellsOfV l) := by
  obtain ⟨n, a, cap, g, rfl, h1, h2, h3, h4, h5⟩ := trod_sli (P := Tryz.prog) Tryz.underlying48 (sz := 2) cellsOp.2.1 (by omega) h
  have each : ∀ i, i < n → ∃ x : (Int × Int), g i = [.int .i64 x.1, .int .i64 x.2] := fun i hi => by
    obtain ⟨hl, k', y', ht⟩ := h4 i hi
    exact el_piece ht hl
  obtain ⟨F, hF⟩ := Deep.choose_lt each
  have hget : ∀ i, i < n → ((List.range n).map F).getD i (0, 0) = F i := fun i hi => by simp [List.getD_eq_getElem?_getD, hi]
  have hln : ((List.range n).map F).length = n := by simp
  refine ⟨.slice a n cap, (List.range n).map F, rfl, ⟨a, cap, by rw [hln], by rw [hln]; exact h1, h2, fun hp => ?_⟩, ?_⟩
  · rw [hln] at hp
    obtain ⟨b, off, e, hb, hc⟩ := h5 hp
    refine ⟨b, off, e, hb, fun i hi => ?_⟩
    rw [hln] at hi
    rw [hget i hi]
    have hf := hF i hi
    have c0 := hc i 0 hi (by omega); have c1 := hc i 1 hi (by omega)
    rw [hf] at c0 c1
    simp at c0 c1
    exact ⟨c0, c1⟩
  · rw [hln]
    refine srcV_of (by omega) (by rw [cellsOfV_len, hln]) (cellsOfV_one _) h3 fun hp => ?_
    obtain ⟨b, off, e, hb, hc⟩ := h5 hp
    refine ⟨b, off, e, fun i j hi hj => ?_⟩
    have hg := cellsOfV_get ((List.range n).map F) i (by rw [hln]; exact hi)
    rw [hget i hi] at hg
    rw [hc i j hi hj, hF i hi]
    match j, hj with
    | 0, _ => exact hg.1.symm
    | 1, _ => exact hg.2.symm
set_option maxRecDepth 100000 in
theorem sliS_of {cs : List Value} {k : Nat} {y : DataW H × List MemPlace} (h : Tr enc W k 22 cs y) : ∃ (v : Value) (l : List Sg), cs = [v] ∧ SliS W v l ∧ SrcV W 3 v l.length (cellsOfS l) := by
  obtain ⟨n, a, cap, g, rfl, h1, h2, h3, h4, h5⟩ := trod_sli (P := Tryz.prog) Tryz.underlying22 (sz := 3) cellsOp.2.2.1 (by omega) h
  have each : ∀ i, i < n → ∃ x : Sg, g i = [.int .i64 x.1, .int .i64 x.2.1, .int .i64 x.2.2] := fun i hi => by
    obtain ⟨hl, k', y', ht⟩ := h4 i hi
    exact el_seg ht hl
  obtain ⟨F, hF⟩ := Deep.choose_lt each
  have hget : ∀ i, i < n → ((List.range n).map F).getD i (0, 0, 0) = F i := fun i hi => by simp [List.getD_eq_getElem?_getD, hi]
  have hln : ((List.range n).map F).length = n := by simp
  refine ⟨.slice a n cap, (List.range n).map F, rfl, ⟨a, cap, by rw [hln], by rw [hln]; exact h1, h2, fun hp => ?_⟩, ?_⟩
  · rw [hln] at hp
    obtain ⟨b, off, e, hb, hc⟩ := h5 hp
    refine ⟨b, off, e, hb, fun i hi => ?_⟩
    rw [hln] at hi
    rw [hget i hi]
    have hf := hF i hi
    have c0 := hc i 0 hi (by omega); have c1 := hc i 1 hi (by omega); have c2 := hc i 2 hi (by omega)
    rw [hf] at c0 c1 c2
    simp at c0 c1 c2
    exact ⟨c0, c1, c2⟩
  · rw [hln]
    refine srcV_of (by omega) (by rw [cellsOfS_len, hln]) (cellsOfS_one _) h3 fun hp => ?_
    obtain ⟨b, off, e, hb, hc⟩ := h5 hp
    refine ⟨b, off, e, fun i j hi hj => ?_⟩
    have hg := cellsOfS_get ((List.range n).map F) i (by rw [hln]; exact hi)
    unfold ats vls at hg
    rw [hget i hi] at hg
    rw [hc i j hi hj, hF i hi]
    match j, hj with
    | 0, _ => exact hg.1.symm
    | 1, _ => exact hg.2.1.symm
    | 2, _ => exact hg.2.2.symm
set_option maxRecDepth 100000 in
set_option maxHeartbeats 2000000 in
theorem el_rsv {cs : List Value} {k : Nat} {y : DataW H × List MemPlace} (h : Tr enc W k 50 cs y) (hl : cs.length = 8) : ∃ (x : Rw) (r : Rv), cs = x.cells ∧ RwF W x r ∧ r.u.length ≤ maxLen := by
  obtain ⟨ys, n', _, _, hl1, hyl, hfs⟩ := DataW.trod_struct Tryz.underlying50 h
  have h0 := hfs 0 _ rfl
  have h1 := hfs 1 _ rfl
  have h2 := hfs 2 _ rfl
  have h3 := hfs 3 _ rfl
  have h4 := hfs 4 _ rfl
  have h5 := hfs 5 _ rfl
  simp only [List.getElem_toArray, List.getElem_cons_zero, List.getElem_cons_succ] at h0 h1 h2 h3 h4 h5
  simp only [cells4.2.1, cellsOp.2.2.2.2.2.2.2.1, cellsOp.2.2.2.2.1, cellsOp.2.2.2.2.2.2.2.2.2.1, cellsOp.2.2.2.2.2.2.2.2.2.2.1] at h0 h1 h2 h3 h4 h5
  match cs, hl with
  | [c0, c1, c2, c3, c4, c5, c6, c7], _ =>
    match ys, hyl with
    | [y0, y1, y2, y3, y4, y5], _ =>
      simp at h0 h1 h2 h3 h4 h5
      obtain ⟨z0, e0, _, w0⟩ := DataW.trod_int Tryz.underlying44 h0
      obtain ⟨z1, e1, _, w1⟩ := DataW.trod_int Tryz.underlying44 h1
      obtain ⟨s2, e2, _, w2⟩ := DataW.trod_string Tryz.underlying9 h2
      obtain ⟨zs, n2, _, _, hl2, hzl, hgs⟩ := DataW.trod_struct Tryz.underlying47 h3
      have k0 := hgs 0 _ rfl
      have k1 := hgs 1 _ rfl
      have k2 := hgs 2 _ rfl
      simp only [List.getElem_toArray, List.getElem_cons_zero, List.getElem_cons_succ] at k0 k1 k2
      simp only [cells4.2.2.1, cellsOp.2.2.2.2.2.2.2.2.1] at k0 k1 k2
      match zs, hzl with
      | [q0, q1, q2], _ =>
        simp at k0 k1 k2
        obtain ⟨z3, e3, _, w3⟩ := DataW.trod_int Tryz.underlying2 k0
        obtain ⟨z4, e4, _, w4⟩ := DataW.trod_int Tryz.underlying2 k1
        obtain ⟨vT, lT, eT, hT, hTs⟩ := sliP_of k2
        obtain ⟨vW, lW, eW, hW, hWs⟩ := sliVs_of h4
        obtain ⟨vA, lA, eA, hA, hAs⟩ := sliS_of h5
        simp at e0 e1 e2 e3 e4 eT eW eA
        subst e0 e1 e2 e3 e4 eT eW eA
        refine ⟨⟨z0, z1, s2.data.toList, z3, z4, _, _, _⟩, ⟨z0, z1, s2.data.toList, z3, z4, lT, lW, lA⟩, rfl, ⟨rfl, rfl, rfl, rfl, rfl, hT, hTs, hW, hWs, hA, hAs⟩, ?_⟩
        show s2.data.toList.length ≤ maxLen
        rw [Array.length_toList]
        exact w2
set_option maxRecDepth 100000 in
theorem el_change {cs : List Value} {k : Nat} {y : DataW H × List MemPlace} (h : Tr enc W k 52 cs y) (hl : cs.length = 9) : ∃ (q : Cw) (c : Int × Rv), cs = cwCells q ∧ q.1 = c.1 ∧ (0 ≤ q.1 ∧ q.1 ≤ 255) ∧ RwF W q.2 c.2 ∧ c.2.u.length ≤ maxLen := by
  obtain ⟨ys, n', _, _, hl1, hyl, hfs⟩ := DataW.trod_struct Tryz.underlying52 h
  have h0 := hfs 0 _ rfl
  have h1 := hfs 1 _ rfl
  simp only [List.getElem_toArray, List.getElem_cons_zero, List.getElem_cons_succ] at h0 h1
  simp only [cells4.1, cellsOp.2.2.2.2.2.1] at h0 h1
  match cs, hl with
  | [c0, c1, c2, c3, c4, c5, c6, c7, c8], _ =>
    match ys, hyl with
    | [y0, y1], _ =>
      simp at h0 h1
      obtain ⟨z0, e0, _, w0⟩ := DataW.trod_int Tryz.underlying5 h0
      obtain ⟨x, r, ex, hx, hu⟩ := el_rsv h1 rfl
      simp only [List.cons.injEq, and_true] at e0
      subst e0
      exact ⟨(z0, x), (z0, r), by rw [ex], rfl, wfU8 w0, hx, hu⟩
end
end Go.Proofs.YtjhhcljbmnomlaaGreat

namespace Go.Proofs.YtjhhcljbmnomlaaGreat
open Go.ChangeShapes Go.WideShapes Go.ChangeAt Go.RowKit
section
variable {H : Type} {enc : TypeId × Value → H} {P : Program}
/-- A slice: its elements, each by its cells and its data. -/
theorem trod_sliD {ts e : TypeId} {sz : Nat} {W : World} {cs : List Value} {x : DataW H × List MemPlace} {fuel : Nat} (hs : P.underlying ts = some (.slice e)) (ce : P.cellsOf e = sz) (h0 : 0 < sz) (hf : DataW.trod enc P W 0 (fun _ => true) true fuel ts cs = some x) :
    ∃ (n : Nat) (a : Option Addr) (cap : Nat) (g : Nat → List Value) (D : Nat → DataW H), cs = [.slice a n cap] ∧ n ≤ cap ∧ cap ≤ 9223372036854775807 ∧ (a = none → n = 0 ∧ cap = 0) ∧
      (n = 0 ∨ ∃ el sp, x.1 = .slice el sp ∧ el.length = n ∧ ∀ i, i < n → D i ∈ el) ∧
      (∀ i, i < n → (g i).length = sz ∧ ∃ k y, DataW.trod enc P W 0 (fun _ => true) true k e (g i) = some y ∧ y.1 = D i) ∧
      (0 < n → ∃ b off, a = some ⟨b, off, none⟩ ∧ b < W.heap.size ∧ ∀ i j, i < n → j < sz → W.cell? ⟨b, off + i * sz + j, none⟩ = (g i)[j]?) := by
  rcases Deep.open_slice hs hf with ⟨hcs, _⟩ | ⟨a', len, cap, m, n, D, Pl, hcs, _, hlc, hcm, hm, hxe, hx⟩
  · exact ⟨0, none, 0, fun _ => [], fun _ => .nil, hcs, by omega, by omega, fun _ => ⟨rfl, rfl⟩, .inl rfl, fun i hi => by omega, fun h => by omega⟩
  · have hlen : len ≤ m := by rw [hm]; simpa using hlc
    have each : ∀ i, i < len → ∃ l : List Value, (l.length = sz ∧ (∃ k y, DataW.trod enc P W 0 (fun _ => true) true k e l = some y ∧ y.1 = D i)) ∧ ∀ j, j < sz → W.cell? ((a'.add (i * sz)).add j) = l[j]? := fun i hi' => by
      obtain ⟨cs', hc, ht⟩ := hx i (by omega)
      rw [ce] at hc
      obtain ⟨_, hcl, hat⟩ := World.cells?_some hc
      refine ⟨cs', ⟨hcl, _, _, ht, rfl⟩, fun j hj => ?_⟩
      exact hat j hj
    obtain ⟨F, hF⟩ := Deep.choose_lt each
    refine ⟨len, some a', cap, F, D, hcs, by omega, by unfold maxLen at hcm; omega, (fun e => by cases e), .inr ⟨_, _, by rw [hxe], by simp, fun i hi => List.mem_map.2 ⟨i, List.mem_range.2 hi, rfl⟩⟩, fun i hi => (hF i hi).1, fun hl => ?_⟩
    have hc00 := (hF 0 hl).2 0 h0
    rw [List.getElem?_eq_getElem (by rw [(hF 0 hl).1.1]; exact h0)] at hc00
    obtain ⟨b, off, spot⟩ := a'
    have hsp : spot = none := by
      cases spot with
      | none => rfl
      | some s => simp [Addr.add, World.cell?] at hc00; split at hc00 <;> simp at hc00
    subst hsp
    have hb : b < W.heap.size := by
      apply Nat.lt_of_not_le
      intro hge
      simp [Addr.add, World.cell?, Array.getElem?_eq_none hge] at hc00
    refine ⟨b, off, rfl, hb, fun i j hi hj => ?_⟩
    have := (hF i hi).2 j hj
    rw [addr_add, addr_add] at this
    exact this
theorem weights_all_mem {e : TypeId} : ∀ {l : List (DataW H)} {d : DataW H}, d ∈ l → ∀ n ∈ d.weights P e, n ∈ DataW.weightsAll P e l
  | d' :: r, d, hd, n, hn => by
    simp only [DataW.weightsAll, List.mem_append]
    rcases List.mem_cons.1 hd with rfl | h
    · exact .inl hn
    · exact .inr (weights_all_mem h n hn)
/-- A row inside a slice of slices takes no more bytes than the form's own reach. -/
theorem reach_row {ts : List TypeId} {ds : List (DataW H)} (h : (DataW.weightsEach P ts ds).all (· ≤ reachBytes) = true) {j : Nat} {t e q : TypeId} {el sp el' sp' : List (DataW H)}
    (ht : ts[j]? = some t) (hd : ds[j]? = some (.slice el sp)) (hu : P.underlying t = some (.slice e)) (hu2 : P.underlying e = some (.slice q)) (hx : DataW.slice el' sp' ∈ el) : (el'.length + sp'.length) * P.bytesOf q ≤ reachBytes := by
  refine of_decide_eq_true (List.all_eq_true.1 h _ (DataW.weights_mem_each ht hd _ ?_))
  simp only [DataW.weights, hu, List.mem_cons, List.mem_append]
  exact .inr (.inl (weights_all_mem hx _ (by simp [DataW.weights, hu2])))
end
end Go.Proofs.YtjhhcljbmnomlaaGreat

namespace Go.Proofs.YtjhhcljbmnomlaaGreat
open Go.ChangeShapes Go.WideShapes Go.ChangeAt Go.RowKit
attribute [local irreducible] Go.Calls

end Go.Proofs.YtjhhcljbmnomlaaGreat

namespace Go.Proofs.YtjhhcljbmnomlaaGreat
open Go.ChangeShapes Go.WideShapes Go.ChangeAt Go.RowKit
attribute [local irreducible] Go.Calls

theorem body_nil {w : World} {m : Nat} (h : MapU w m []) : Body w m [] (fun _ => []) (fun _ => []) [] :=
  ⟨h, fun p hp => by simp at hp, fun _ _ => rfl, fun p hp => by simp at hp, fun _ => rwsF_nil w, fun s r hr => by simp at hr, List.Perm.refl _, good_nil, fun r hr => by simp at hr⟩
/-- What New says. -/
def NewP (w : World) (F : List Sg) (e : Ending) (w' : World) : Prop := Below w.heap.size w w' ∧
  ((posB F = false ∧ e = .returned (.tuple #[.pointer none, .int .i64 5])) ∨ (posB F = true ∧ ∃ p, e = .returned (.tuple #[.pointer (some ⟨p, 0, none⟩), .int .i64 0]) ∧ Pl w' p [] F ∧ w.heap.size ≤ p))
theorem new_f {va : Value} {F : List Sg} (w : World) (hF : SliF3 w va F) (hl : F.length ≤ 1000000000) : Calls Tryz.prog 11 #[va] w (NewP w F) := by
  refine (new_c w hF hl).mono ?_
  rintro e w' ⟨hb, ⟨h1, rfl⟩ | ⟨h1, p, m, v, rfl, hB, hC, hM, hp, _⟩⟩
  · exact ⟨hb, .inl ⟨h1, rfl⟩⟩
  · exact ⟨hb, .inr ⟨h1, p, rfl, ⟨m, v, _, _, _, hB, hC, body_nil hM⟩, hp⟩⟩
theorem load_f {p : Nat} {L : List Rv} {C : List Sg} (w : World) (hP : Pl w p L C) : Calls Tryz.prog 24 #[.pointer (some ⟨p, 0, none⟩)] w (LoadIs w (fnsS L)) := by
  obtain ⟨m, vc, U, rows, rvs, hB, hC, hBd⟩ := hP.has
  have hin : InR (allFs (fun s => fnsS (rvs s)) U) := by rw [fns_all]; exact hBd.inR
  refine (planLoad_c w hB hBd.planC hin (by rw [hBd.all_len]; have := hBd.good.few; omega) (by have := hBd.lenAll; omega)).mono ?_
  rintro e w' ⟨v, rfl, h1, h2⟩
  rw [fns_all] at h1
  exact ⟨v, rfl, ldR_perm (L := fnsS (allRv rvs U)) (M := fnsS L) (List.Perm.map Rv.A hBd.perm) h1, h2⟩
/-- What a user has. -/
def ofU (L : List Rv) (s : List UInt8) : List Rv := L.filter fun r => decide (r.u = s)
theorem Body.ofUser {w : World} {m : Nat} {U : List Ent} {rows : List UInt8 → List Rw} {rvs : List UInt8 → List Rv} {L : List Rv} (h : Body w m U rows rvs L) (s : List UInt8) : (rvs s).Perm (ofU L s) := by
  have hp := (h.rest s).filter (fun r => decide (r.u = s))
  rw [List.filter_append] at hp
  have e1 : (rvs s).filter (fun r => decide (r.u = s)) = rvs s := by
    rw [List.filter_eq_self]
    intro r hr
    simpa using h.user s r hr
  have e2 : (restOf rvs U s).filter (fun r => decide (r.u = s)) = [] := by
    rw [List.filter_eq_nil_iff]
    intro r hr
    obtain ⟨t, ht, hrt⟩ := rest_mem hr
    have := h.user t r hrt
    simp only [decide_eq_true_eq]
    rw [this]; exact ht
  rw [e1, e2, List.append_nil] at hp
  exact hp
theorem user_f {p : Nat} {L : List Rv} {C : List Sg} (s : List UInt8) (w : World) (hP : Pl w p L C) (hs : s.length ≤ maxLen) : Calls Tryz.prog 28 #[.pointer (some ⟨p, 0, none⟩), nmV s] w (LoadIs w (fnsS (ofU L s))) := by
  obtain ⟨m, vc, U, rows, rvs, hB, hC, hBd⟩ := hP.has
  refine (user_c s w hB hBd.planC hs).mono ?_
  rintro e w' ⟨v, rfl, h1, h2⟩
  exact ⟨v, rfl, ldR_perm (L := fnsS (rvs s)) (M := fnsS (ofU L s)) (List.Perm.map Rv.A (hBd.ofUser s)) h1, h2⟩
/-- What List says. -/
def LstP (w : World) (L : List Rv) (e : Ending) (w' : World) : Prop := ∃ v l, e = .returned v ∧ SliRw w' v l ∧ RwsF w' l L ∧ Below w.heap.size w w'
theorem list_f {p : Nat} {L : List Rv} {C : List Sg} (w : World) (hP : Pl w p L C) : Calls Tryz.prog 23 #[.pointer (some ⟨p, 0, none⟩)] w (LstP w L) := by
  obtain ⟨m, vc, U, rows, rvs, hB, hC, hBd⟩ := hP.has
  refine (planList_c w hB hBd.map hBd.ok hBd.vals hBd.smalls (by rw [hBd.all_len]; have := hBd.good.few; omega)).mono ?_
  rintro e w' ⟨R, hp, ho, v, l, rfl, how, hF, _, hft, hb⟩
  have := ord_eq hBd.good (hp.trans hBd.perm) ho
  subst this
  exact ⟨v, l, rfl, sliRw_own how hft, hF, hb⟩
/-- What a load is, where the sum is known. -/
theorem ldR_is {M : List (List Sg)} {v : Value} {w : World} {A : List Sg} (h : ldR M v w) (hp : ∀ F ∈ M, posB F = true) (hs : sumS M = (A, 0)) : SliS w v A := by
  obtain ⟨A', h1, h2⟩ := h
  rcases sumS_pos hp with ⟨_, _, h3⟩ | ⟨_, h3⟩
  · rw [hs] at h3
    have := loads_unique h2 h3 (fun t => ⟨rfl, rfl⟩)
    subst this; exact h1
  · rw [hs] at h3; simp at h3
end Go.Proofs.YtjhhcljbmnomlaaGreat
