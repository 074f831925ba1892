/- Package plan: the reservation with a number is taken away. No conditions but the sizes. Package plan: the three changes of a draft, each as the document's. No conditions but the sizes. Package plan: one change of a draft, whatever its kind. No conditions but the sizes. Package plan: changes made at once: all or none. No conditions but the sizes. -/
import Derived.Test.YtpoejeambnbcaaaGreatPNGH
namespace Go.Proofs.YtpoejeambnbcaaaGreat
open Go.ChangeShapes Go.WideShapes Go.ChangeAt Go.RowKit
attribute [local irreducible] Go.Calls

def fndR (U : List Ent) (rows : List UInt8 → List Rw) (id : Int) : Value → World → Prop := fun v _ => ∃ y, v = .tuple #[rwV y, .bool true] ∧ InRows U rows y ∧ y.id = id
theorem stab_fnd (U : List Ent) (rows : List UInt8 → List Rw) (id : Int) : Stab (fndR U rows id) := fun _ _ _ h _ => h
def rowOfR (U : List Ent) (rows : List UInt8 → List Rw) (id : Int) : Value → World → Prop := fun v _ => ∃ y, v = rwV y ∧ InRows U rows y ∧ y.id = id
theorem stab_rowOf (U : List Ent) (rows : List UInt8 → List Rw) (id : Int) : Stab (rowOfR U rows id) := fun _ _ _ h _ => h
theorem csub_s {w : World} {v1 v2 : Value} {F G : List Sg} {R : List Sg} {er : Int} (h1 : SliS w v1 F) (h2 : SliS w v2 G) (hl : F.length + G.length ≤ 999999990) (he : doS 1 F G = (R, er)) : Calls Tryz.prog 177 #[v1, v2] w (OfIs w R er) := by
  obtain ⟨a, c, rfl, p1, p2, p3⟩ := h1
  obtain ⟨a', c', rfl, q1, q2, q3⟩ := h2
  have := csub_c F G a a' c c' w p1 p2 q1 q2 hl p3 q3
  rw [he] at this
  exact this

set_option maxRecDepth 100000 in
set_option maxHeartbeats 8000000 in
theorem drop_none {d m : Nat} {a n c} {L : List Rv} {x : Rw} {id : Int} (w : World) (hD : Dr w d m (.slice a n c) L) (hid : x.id = id) (hfit : x.fit) (hno : atS L id = none) :
    Calls Tryz.prog 139 #[.pointer (some ⟨d, 0, none⟩), rwV x] w fun e w' => e = .returned (.int .i64 7) ∧ Two d m w w' := by
  obtain ⟨U, rows, rvs, vs, hB, hP, hS⟩ := hD.has
  obtain ⟨avs, nvs, cvs, hvs⟩ := ldR_sli hS
  subst hvs
  have hds := hB.lt
  obtain ⟨xi, xq, xu, xf, xt, xT, xW, xA⟩ := x
  obtain ⟨⟨a5, n5, c5, q5⟩, ⟨a6, n6, c6, q6⟩, ⟨a7, n7, c7, q7⟩, _⟩ := hfit
  simp only at q5 q6 q7 hid
  subst q5 q6 q7 hid
  obtain ⟨w0, hw0⟩ : ∃ w0, w0 = w.alloc (Obj.cells #[.int .u32 xi, .int .u32 xq, nmV xu, .int .i64 xf, .int .i64 xt, .slice a5 n5 c5, .slice a6 n6 c6, .slice a7 n7 c7] 50) := ⟨_, rfl⟩
  obtain ⟨pb, hpb⟩ : ∃ pb, pb = w.heap.size := ⟨_, rfl⟩
  have hb0 : Below w.heap.size w w0 := by rw [hw0]; (repeat (first | exact Below.refl _ _ | assumption | refine balloc ?_ _ | refine below_drewN ?_ _ | refine bstep (by assumption) ?_ | refine bstep (Past.prop _) ?_ | refine Below.setCell ?_ (by first | exact Nat.le_refl _ | (simp; done) | (simp; omega)) _))
  have B0 : Blk w0 pb #[.int .u32 xi, .int .u32 xq, nmV xu, .int .i64 xf, .int .i64 xt, .slice a5 n5 c5, .slice a6 n6 c6, .slice a7 n7 c7] 50 := by rw [hw0, hpb]; exact Blk.made _ _ _
  have hBw := hB.past hb0
  have HBW := hidE hBw; have HP := hidE (hP.past hb0); have HBB := hidE hb0; have HS := hidE (stab_ld _ _ _ _ hS hb0)
  have HDS := hidE hds; have HNO := hidE hno
  go_enter Tryz.func139, Tryz.ntmps139
  go_upto_region 1 with fail
  rw [← hw0, ← hpb]
  have q0 := hBw.cell 0; have q1 := hBw.cell 1; have qz := hBw.lt
  have b0 := B0.cell 0; have bz := B0.lt
  simp at q0 q1 b0
  clear hw0 hB hP hS hno hb0 hpb hBw B0 hD hds
  refine wp_region_J 11 [9] (nthR [detR (.pointer (some ⟨d, 0, none⟩)), detR (.pointer (some ⟨d, 0, none⟩)), detR (.pointer (some ⟨d, 0, none⟩)), detR (ctV (.slice a n c) m), detR (.pointer (some ⟨pb, 0, none⟩)), detR (.int .u32 xi), detR (.tuple #[rvZ, .bool false]), detR (.tuple #[rvZ, .bool false]), detR rvZ, detR (.bool false), newR w0.heap.size #[.int .u32 0, .int .u32 0, .string ⟨#[]⟩, .int .i64 0, .int .i64 0, .slice none 0 0, .slice none 0 0, .slice none 0 0] 50]) (fun _ => false) (by kernel_rfl) (by decide) (by kernel_rfl) (stab_nth (by intro r hr; simp only [List.mem_cons, List.not_mem_nil, or_false] at hr; rcases hr with rfl | rfl | rfl | rfl | rfl | rfl | rfl | rfl | rfl | rfl | rfl <;> first | exact stab_det _ | exact stab_new _ _ _)) ?_ ?_ ?_
  · intro i o hi ho
    match i, hi with
    | 0, _ =>
      obtain rfl := Option.some.inj ho
      intro u x hd
      have hc := Past.cell x
      simp [go_sem, gives, frm, Act.put, nthR, detR, Region.wanted, Below.refl]
    | 1, _ =>
      obtain rfl := Option.some.inj ho
      intro u x hd
      have hc := Past.cell x
      have d0 := hd 0 (by decide) (by kernel_rfl)
      simp only [nthR, detR, List.getD_cons_zero] at d0
      simp [go_sem, gives, frm, Act.put, nthR, detR, Region.wanted, Below.refl, d0]
    | 2, _ =>
      obtain rfl := Option.some.inj ho
      intro u x hd
      have hc := Past.cell x
      have d1 := hd 1 (by decide) (by kernel_rfl)
      simp only [nthR, detR, List.getD_cons_zero, List.getD_cons_succ] at d1
      simp [go_sem, gives, frm, Act.put, nthR, detR, Region.wanted, Below.refl, d1]
    | 3, _ =>
      obtain rfl := Option.some.inj ho
      intro u x hd
      have hc := Past.cell x
      have d2 := hd 2 (by decide) (by kernel_rfl)
      simp only [nthR, detR, List.getD_cons_zero, List.getD_cons_succ] at d2
      simp [go_sem, gives, frm, Act.put, nthR, detR, Region.wanted, Below.refl, hc, d2, q0, q1, qz]
    | 4, _ =>
      obtain rfl := Option.some.inj ho
      intro u x hd
      have hc := Past.cell x
      simp [go_sem, gives, frm, Act.put, nthR, detR, Region.wanted, Below.refl]
    | 5, _ =>
      obtain rfl := Option.some.inj ho
      intro u x hd
      have hc := Past.cell x
      have d4 := hd 4 (by decide) (by kernel_rfl)
      simp only [nthR, detR, List.getD_cons_zero, List.getD_cons_succ] at d4
      simp [go_sem, gives, frm, Act.put, nthR, detR, Region.wanted, Below.refl, hc, d4, b0, bz]
    | 6, _ =>
      obtain rfl := Option.some.inj ho
      intro u x hd
      have hc := Past.cell x
      have d3 := hd 3 (by decide) (by kernel_rfl)
      have d5 := hd 5 (by decide) (by kernel_rfl)
      simp only [nthR, detR, List.getD_cons_zero, List.getD_cons_succ] at d3 d5
      simp [go_sem, gives, frm, Act.put, nthR, Region.wanted, d3, d5]
      (with_reducible refine (find_none (.slice a n c) (HP.out.past (Past.prop x)) HNO.out).mono ?_); rintro e w3 ⟨rfl, hb3⟩; exact ⟨_, rfl, hb3, rfl⟩
    | 7, _ =>
      obtain rfl := Option.some.inj ho
      intro u x hd
      have hc := Past.cell x
      have d6 : u 6 = .tuple #[rvZ, .bool false] := hd 6 (by decide) (by kernel_rfl)
      simp [go_sem, gives, frm, Act.put, nthR, Region.wanted, Below.refl, detR, d6]
    | 8, _ =>
      obtain rfl := Option.some.inj ho
      intro u x hd
      have hc := Past.cell x
      have d7 : u 7 = .tuple #[rvZ, .bool false] := hd 7 (by decide) (by kernel_rfl)
      simp [go_sem, gives, frm, Act.put, nthR, Region.wanted, Below.refl, detR, d7]
    | 9, _ =>
      obtain rfl := Option.some.inj ho
      intro u x hd
      have hc := Past.cell x
      have d7 : u 7 = .tuple #[rvZ, .bool false] := hd 7 (by decide) (by kernel_rfl)
      simp [go_sem, gives, frm, Act.put, nthR, Region.wanted, Below.refl, detR, d7]
    | 10, _ =>
      obtain rfl := Option.some.inj ho
      intro u x hd
      have hc := Past.cell x
      simp [go_sem, gives, nthR, Region.wanted]
      exact ⟨by (repeat (first | exact Below.refl _ _ | assumption | refine balloc ?_ _ | refine below_drewN ?_ _ | refine bstep (by assumption) ?_ | refine bstep (Past.prop _) ?_ | refine Below.setCell ?_ (by first | exact Nat.le_refl _ | (simp; done) | (simp; omega)) _)), ⟨_, rfl, (Past.prop x).size, Blk.made _ _ _⟩⟩
    | i + 11, h => exact absurd h (by omega)
  · intro i o hx ho
    simp only [List.mem_cons, List.not_mem_nil, or_false] at hx
    rcases hx with rfl
    · obtain rfl := Option.some.inj ho
      refine ⟨rfl, fun _ _ _ _ h => h, fun u x hd => ?_⟩
      have d7 := hd 7 (by decide) (by kernel_rfl)
      simp only [nthR, detR, List.getD_cons_zero, List.getD_cons_succ] at d7
      refine ⟨rfl, .bool false, rfl, fun w' => ?_⟩
      simp [go_sem, frm, Act.put, d7]
  · intro u x9 hu hne
    obtain ⟨p5, e10, p5z, B5⟩ : newR w0.heap.size #[.int .u32 0, .int .u32 0, .string ⟨#[]⟩, .int .i64 0, .int .i64 0, .slice none 0 0, .slice none 0 0, .slice none 0 0] 50 (u 10) x9.1 := hu 10 (by decide)
    have e8 : u 8 = rvZ := hu 8 (by decide)
    have e9 : u 9 = .bool false := hu 9 (by decide)
    simp only [frm, List.take, Act.put, e8, e9, e10]
    have q1' : Below w.heap.size w x9.1 := HBB.out.trans (x9.2.mono HBB.out.size)
    have HQ := hidE (below_eight q1' (show w.heap.size ≤ p5 from by have := HBB.out.size; omega) (.int .u32 0) (.int .u32 0) (.string ⟨#[]⟩) (.int .i64 0) (.int .i64 0) (.slice none 0 0) (.slice none 0 0) (.slice none 0 0))
    have r0 := B5.cell 0; have r1 := B5.cell 1; have r2 := B5.cell 2; have r3 := B5.cell 3; have r4 := B5.cell 4; have r5 := B5.cell 5; have r6 := B5.cell 6; have r7 := B5.cell 7; have rf := B5.free; have rz := B5.lt
    simp at r0 r1 r2 r3 r4 r5 r6 r7
    clear hu hne e8 e9 e10 q1' B5 p5z q0 q1 qz b0 bz
    generalize x9.1 = w9 at *
    go_wp2
    go_ret
    exact ⟨rfl, two_below HQ.out⟩
set_option maxRecDepth 100000 in
set_option maxHeartbeats 16000000 in
theorem drop_some {d m i : Nat} {a n c} {L : List Rv} {x : Rw} {r : Rv} {id : Int} (w : World) (hD : Dr w d m (.slice a n c) L) (hid : x.id = id) (hfit : x.fit) (hno : atS L id = some i) (hr : L[i]? = some r) :
    Calls Tryz.prog 139 #[.pointer (some ⟨d, 0, none⟩), rwV x] w fun e w' => e = .returned (.int .i64 0) ∧ Two d m w w' ∧ Dr w' d m (.slice a n c) (L.eraseIdx i) := by
  obtain ⟨U, rows, rvs, vs, hB, hP, hS⟩ := hD.has
  obtain ⟨avs, nvs, cvs, hvs⟩ := ldR_sli hS
  subst hvs
  have hds := hB.lt
  obtain ⟨xi, xq, xu, xf, xt, xT, xW, xA⟩ := x
  obtain ⟨⟨a5, n5, c5, q5⟩, ⟨a6, n6, c6, q6⟩, ⟨a7, n7, c7, q7⟩, _⟩ := hfit
  simp only at q5 q6 q7 hid
  subst q5 q6 q7 hid
  obtain ⟨w0, hw0⟩ : ∃ w0, w0 = w.alloc (Obj.cells #[.int .u32 xi, .int .u32 xq, nmV xu, .int .i64 xf, .int .i64 xt, .slice a5 n5 c5, .slice a6 n6 c6, .slice a7 n7 c7] 50) := ⟨_, rfl⟩
  obtain ⟨pb, hpb⟩ : ∃ pb, pb = w.heap.size := ⟨_, rfl⟩
  have hb0 : Below w.heap.size w w0 := by rw [hw0]; (repeat (first | exact Below.refl _ _ | assumption | refine balloc ?_ _ | refine below_drewN ?_ _ | refine bstep (by assumption) ?_ | refine bstep (Past.prop _) ?_ | refine Below.setCell ?_ (by first | exact Nat.le_refl _ | (simp; done) | (simp; omega)) _))
  have B0 : Blk w0 pb #[.int .u32 xi, .int .u32 xq, nmV xu, .int .i64 xf, .int .i64 xt, .slice a5 n5 c5, .slice a6 n6 c6, .slice a7 n7 c7] 50 := by rw [hw0, hpb]; exact Blk.made _ _ _
  have hBw := hB.past hb0
  have HBW := hidE hBw; have HP := hidE (hP.past hb0); have HBB := hidE hb0; have HS := hidE (stab_ld _ _ _ _ hS hb0)
  have HDS := hidE hds; have HNO := hidE hno; have HR := hidE hr
  have HRL := hidE (show r ∈ L from List.mem_of_getElem? hr)
  clear hr
  go_enter Tryz.func139, Tryz.ntmps139
  go_upto_region 1 with fail
  rw [← hw0, ← hpb]
  have q0 := hBw.cell 0; have q1 := hBw.cell 1; have qz := hBw.lt
  have b0 := B0.cell 0; have bz := B0.lt
  simp at q0 q1 b0
  clear hw0 hB hP hS hno hb0 hpb hBw B0 hD hds
  refine wp_region_J 11 [9] (nthR [detR (.pointer (some ⟨d, 0, none⟩)), detR (.pointer (some ⟨d, 0, none⟩)), detR (.pointer (some ⟨d, 0, none⟩)), detR (ctV (.slice a n c) m), detR (.pointer (some ⟨pb, 0, none⟩)), detR (.int .u32 xi), fndR U rows r.id, fndR U rows r.id, rowOfR U rows r.id, detR (.bool true), newR w0.heap.size #[.int .u32 0, .int .u32 0, .string ⟨#[]⟩, .int .i64 0, .int .i64 0, .slice none 0 0, .slice none 0 0, .slice none 0 0] 50]) (fun _ => false) (by kernel_rfl) (by decide) (by kernel_rfl) (stab_nth (by intro r hr; simp only [List.mem_cons, List.not_mem_nil, or_false] at hr; rcases hr with rfl | rfl | rfl | rfl | rfl | rfl | rfl | rfl | rfl | rfl | rfl <;> first | exact stab_det _ | exact stab_fnd _ _ _ | exact stab_rowOf _ _ _ | exact stab_new _ _ _)) ?_ ?_ ?_
  · intro i o hi ho
    match i, hi with
    | 0, _ =>
      obtain rfl := Option.some.inj ho
      intro u x hd
      have hc := Past.cell x
      simp [go_sem, gives, frm, Act.put, nthR, detR, Region.wanted, Below.refl]
    | 1, _ =>
      obtain rfl := Option.some.inj ho
      intro u x hd
      have hc := Past.cell x
      have d0 := hd 0 (by decide) (by kernel_rfl)
      simp only [nthR, detR, List.getD_cons_zero] at d0
      simp [go_sem, gives, frm, Act.put, nthR, detR, Region.wanted, Below.refl, d0]
    | 2, _ =>
      obtain rfl := Option.some.inj ho
      intro u x hd
      have hc := Past.cell x
      have d1 := hd 1 (by decide) (by kernel_rfl)
      simp only [nthR, detR, List.getD_cons_zero, List.getD_cons_succ] at d1
      simp [go_sem, gives, frm, Act.put, nthR, detR, Region.wanted, Below.refl, d1]
    | 3, _ =>
      obtain rfl := Option.some.inj ho
      intro u x hd
      have hc := Past.cell x
      have d2 := hd 2 (by decide) (by kernel_rfl)
      simp only [nthR, detR, List.getD_cons_zero, List.getD_cons_succ] at d2
      simp [go_sem, gives, frm, Act.put, nthR, detR, Region.wanted, Below.refl, hc, d2, q0, q1, qz]
    | 4, _ =>
      obtain rfl := Option.some.inj ho
      intro u x hd
      have hc := Past.cell x
      simp [go_sem, gives, frm, Act.put, nthR, detR, Region.wanted, Below.refl]
    | 5, _ =>
      obtain rfl := Option.some.inj ho
      intro u x hd
      have hc := Past.cell x
      have d4 := hd 4 (by decide) (by kernel_rfl)
      simp only [nthR, detR, List.getD_cons_zero, List.getD_cons_succ] at d4
      simp [go_sem, gives, frm, Act.put, nthR, detR, Region.wanted, Below.refl, hc, d4, b0, bz]
    | 6, _ =>
      obtain rfl := Option.some.inj ho
      intro u x hd
      have hc := Past.cell x
      have d3 := hd 3 (by decide) (by kernel_rfl)
      have d5 := hd 5 (by decide) (by kernel_rfl)
      simp only [nthR, detR, List.getD_cons_zero, List.getD_cons_succ] at d3 d5
      simp [go_sem, gives, frm, Act.put, nthR, Region.wanted, d3, d5]
      (with_reducible refine (find_some (.slice a n c) (HP.out.past (Past.prop x)) HNO.out HR.out).mono ?_); rintro e w3 ⟨y, rfl, h1, h2, hb3⟩; exact ⟨_, rfl, hb3, ⟨y, rfl, h1, h2⟩⟩
    | 7, _ =>
      obtain rfl := Option.some.inj ho
      intro u x hd
      have hc := Past.cell x
      have h6 : fndR U rows r.id (u 6) x.1 := hd 6 (by decide) (by kernel_rfl)
      simp [go_sem, gives, frm, Act.put, nthR, Region.wanted, Below.refl]
      exact h6
    | 8, _ =>
      obtain rfl := Option.some.inj ho
      intro u x hd
      have hc := Past.cell x
      have h7 : ∃ y, u 7 = .tuple #[rwV y, .bool true] ∧ InRows U rows y ∧ y.id = r.id := hd 7 (by decide) (by kernel_rfl)
      have e7 := h7.choose_spec.1; have hs1 := h7.choose_spec.2; generalize h7.choose = y at *
      simp [go_sem, gives, frm, Act.put, nthR, Region.wanted, Below.refl, e7]
      exact ⟨y, rfl, hs1⟩
    | 9, _ =>
      obtain rfl := Option.some.inj ho
      intro u x hd
      have hc := Past.cell x
      have h7 : ∃ y, u 7 = .tuple #[rwV y, .bool true] ∧ InRows U rows y ∧ y.id = r.id := hd 7 (by decide) (by kernel_rfl)
      have e7 := h7.choose_spec.1; have hs1 := h7.choose_spec.2; generalize h7.choose = y at *
      simp [go_sem, gives, frm, Act.put, nthR, Region.wanted, Below.refl, detR, e7]
    | 10, _ =>
      obtain rfl := Option.some.inj ho
      intro u x hd
      have hc := Past.cell x
      simp [go_sem, gives, nthR, Region.wanted]
      exact ⟨by (repeat (first | exact Below.refl _ _ | assumption | refine balloc ?_ _ | refine below_drewN ?_ _ | refine bstep (by assumption) ?_ | refine bstep (Past.prop _) ?_ | refine Below.setCell ?_ (by first | exact Nat.le_refl _ | (simp; done) | (simp; omega)) _)), ⟨_, rfl, (Past.prop x).size, Blk.made _ _ _⟩⟩
    | i + 11, h => exact absurd h (by omega)
  · intro i o hx ho
    simp only [List.mem_cons, List.not_mem_nil, or_false] at hx
    rcases hx with rfl
    · obtain rfl := Option.some.inj ho
      refine ⟨rfl, fun _ _ _ _ h => h, fun u x hd => ?_⟩
      have h7 : ∃ y, u 7 = .tuple #[rwV y, .bool true] ∧ InRows U rows y ∧ y.id = r.id := hd 7 (by decide) (by kernel_rfl)
      have e7 := h7.choose_spec.1; have hs1 := h7.choose_spec.2; generalize h7.choose = y at *
      refine ⟨rfl, .bool true, rfl, fun w' => ?_⟩
      simp [go_sem, frm, Act.put, e7]
  · intro u x9 hu hne
    obtain ⟨p5, e10, p5z, B5⟩ : newR w0.heap.size #[.int .u32 0, .int .u32 0, .string ⟨#[]⟩, .int .i64 0, .int .i64 0, .slice none 0 0, .slice none 0 0, .slice none 0 0] 50 (u 10) x9.1 := hu 10 (by decide)
    obtain ⟨y, e8, hyr, hyi⟩ : rowOfR U rows r.id (u 8) x9.1 := hu 8 (by decide)
    have e9 : u 9 = .bool true := hu 9 (by decide)
    have hyF := HP.out.rowIs hyr hyi HRL.out
    have hyf := HP.out.rowFit hyr hyi HRL.out
    have hyu := hyF.u
    obtain ⟨yi, yq, yu, yf, yt, yT, yW, yA⟩ := y
    obtain ⟨⟨g5, o5, k5, z5⟩, ⟨g6, o6, k6, z6⟩, ⟨g7, o7, k7, z7⟩, hyl⟩ := hyf
    simp only at z5 z6 z7 hyl hyi hyu
    subst z5 z6 z7 hyi hyu
    simp only [frm, List.take, Act.put, e8, e9, e10]
    have q1' : Below w.heap.size w x9.1 := HBB.out.trans (x9.2.mono HBB.out.size)
    obtain ⟨w8, hw8⟩ : ∃ w8, w8 = ((((((((x9.1.setCell ⟨p5, 0, none⟩ (.int .u32 r.id)).setCell ⟨p5, 1, none⟩ (.int .u32 yq)).setCell ⟨p5, 2, none⟩ (nmV r.u)).setCell ⟨p5, 3, none⟩ (.int .i64 yf)).setCell ⟨p5, 4, none⟩ (.int .i64 yt)).setCell ⟨p5, 5, none⟩ (.slice g5 o5 k5)).setCell ⟨p5, 6, none⟩ (.slice g6 o6 k6)).setCell ⟨p5, 7, none⟩ (.slice g7 o7 k7)) := ⟨_, rfl⟩
    have hpz : w.heap.size ≤ p5 := by have := HBB.out.size; omega
    have hb8 : Below w0.heap.size w0 w8 := by rw [hw8]; exact below_eight x9.2 p5z _ _ _ _ _ _ _ _
    have B8 : Blk w8 p5 #[.int .u32 r.id, .int .u32 yq, nmV r.u, .int .i64 yf, .int .i64 yt, .slice g5 o5 k5, .slice g6 o6 k6, .slice g7 o7 k7] 50 := by rw [hw8]; exact blk_eight B5 _ _ _ _ _ _ _ _
    have hsA : SliS w8 (.slice g7 o7 k7) r.A := (hyF.past hb8).a.1
    have HSA := hidE hsA; have HB8 := hidE hb8; have HBL8 := hidE B8; have HYL := hidE hyl
    have HPZ := hidE hpz
    have r0 := B5.cell 0; have r1 := B5.cell 1; have r2 := B5.cell 2; have r3 := B5.cell 3; have r4 := B5.cell 4; have r5 := B5.cell 5; have r6 := B5.cell 6; have r7 := B5.cell 7; have rf := B5.free; have rz := B5.lt
    simp at r0 r1 r2 r3 r4 r5 r6 r7
    clear hu hne e8 e9 e10 q1' hyr hyF hyl hsA hb8 B8 B5 p5z hpz q0 q1 qz b0 bz
    generalize x9.1 = w9 at *
    go_upto_region 4 with fail
    rw [← hw8]
    clear hw8 r0 r1 r2 r3 r4 r5 r6 r7 rf rz
    have hBw8 := HBW.out.past HB8.out
    have q0 := hBw8.cell 0; have q1 := hBw8.cell 1; have q2 := hBw8.cell 2; have qz := hBw8.lt
    have b0 := HBL8.out.cell 0; have b2 := HBL8.out.cell 2; have b7 := HBL8.out.cell 7; have bz := HBL8.out.lt
    simp at q0 q1 q2 b0 b2 b7
    have HS8 := hidE (stab_ld _ _ _ _ HS.out HB8.out)
    obtain ⟨A0, hA0, hL0⟩ := HS8.out
    obtain ⟨F, hF, hLF⟩ := loads_sub (f := r.A) (M := fnsS (L.eraseIdx i)) (K := fnsS L) (A := A0) (fun G hG => by
      rcases List.mem_cons.1 hG with rfl | hG
      · exact rok_pos (HP.out.good.ok r HRL.out)
      · exact fns_pos (good_erase HP.out.good i).ok G hG) HP.out.good.inR (show (fnsS L).Perm (r.A :: fnsS (L.eraseIdx i)) from List.Perm.map Rv.A (erase_perm HR.out)) hL0
    have hlen : A0.length + r.A.length ≤ 999999990 := by
      have h1 := hL0.2.2
      have h2 := lenR_le HP.out.good.ok
      have h3 := rok_len (HP.out.good.ok r HRL.out)
      have h4 := HP.out.good.few
      unfold fnsS at *
      omega
    have HSB := hidE (fun w' (hb : Below w8.heap.size w8 w') => csub_s (hA0.past hb) (HSA.out.past hb) hlen hF)
    have HLF := hidE hLF
    have HW8 := hidE hBw8
    clear hA0 hL0 hF hLF hlen hBw8
    refine wp_region_J 13 [10] (nthR [detR (.pointer (some ⟨d, 0, none⟩)), detR (.pointer (some ⟨d, 0, none⟩)), detR (.pointer (some ⟨d, 0, none⟩)), detR (.pointer (some ⟨d, 2, none⟩)), detR (.slice avs nvs cvs), detR (.pointer (some ⟨p5, 7, none⟩)), detR (.slice g7 o7 k7), tupR F 0, tupR F 0, sliF F, detR (.int .i64 0), detR (.pointer (some ⟨d, 0, none⟩)), detR (.pointer (some ⟨d, 2, none⟩))]) (fun _ => false) (by kernel_rfl) (by decide) (by kernel_rfl) (stab_nth (by intro r hr; simp only [List.mem_cons, List.not_mem_nil, or_false] at hr; rcases hr with rfl | rfl | rfl | rfl | rfl | rfl | rfl | rfl | rfl | rfl | rfl | rfl | rfl <;> first | exact stab_det _ | exact stab_tup _ _ | exact stab_sliF _)) ?_ ?_ ?_
    · intro i o hi ho
      match i, hi with
      | 0, _ =>
        obtain rfl := Option.some.inj ho
        intro u x hd
        have hc := Past.cell x
        simp [go_sem, gives, frm, Act.put, nthR, detR, Region.wanted, Below.refl]
      | 1, _ =>
        obtain rfl := Option.some.inj ho
        intro u x hd
        have hc := Past.cell x
        simp [go_sem, gives, frm, Act.put, nthR, detR, Region.wanted, Below.refl]
      | 2, _ =>
        obtain rfl := Option.some.inj ho
        intro u x hd
        have hc := Past.cell x
        have d1 := hd 1 (by decide) (by kernel_rfl)
        simp only [nthR, detR, List.getD_cons_zero, List.getD_cons_succ] at d1
        simp [go_sem, gives, frm, Act.put, nthR, detR, Region.wanted, Below.refl, d1]
      | 3, _ =>
        obtain rfl := Option.some.inj ho
        intro u x hd
        have hc := Past.cell x
        have d2 := hd 2 (by decide) (by kernel_rfl)
        simp only [nthR, detR, List.getD_cons_zero, List.getD_cons_succ] at d2
        simp [go_sem, gives, frm, Act.put, nthR, detR, Region.wanted, Below.refl, d2]
      | 4, _ =>
        obtain rfl := Option.some.inj ho
        intro u x hd
        have hc := Past.cell x
        have d3 := hd 3 (by decide) (by kernel_rfl)
        simp only [nthR, detR, List.getD_cons_zero, List.getD_cons_succ] at d3
        simp [go_sem, gives, frm, Act.put, nthR, detR, Region.wanted, Below.refl, hc, d3, q2, qz]
      | 5, _ =>
        obtain rfl := Option.some.inj ho
        intro u x hd
        have hc := Past.cell x
        simp [go_sem, gives, frm, Act.put, nthR, detR, Region.wanted, Below.refl]
      | 6, _ =>
        obtain rfl := Option.some.inj ho
        intro u x hd
        have hc := Past.cell x
        have d5 := hd 5 (by decide) (by kernel_rfl)
        simp only [nthR, detR, List.getD_cons_zero, List.getD_cons_succ] at d5
        simp [go_sem, gives, frm, Act.put, nthR, detR, Region.wanted, Below.refl, hc, d5, b7, bz]
      | 7, _ =>
        obtain rfl := Option.some.inj ho
        intro u x hd
        have hc := Past.cell x
        have d4 := hd 4 (by decide) (by kernel_rfl)
        have d6 := hd 6 (by decide) (by kernel_rfl)
        simp only [nthR, detR, List.getD_cons_zero, List.getD_cons_succ] at d4 d6
        simp [go_sem, gives, frm, Act.put, nthR, Region.wanted, d4, d6]
        (with_reducible refine (HSB.out _ (Past.prop x)).mono ?_); rintro e w3 ⟨v, rfl, hv, hb3⟩; exact ⟨_, rfl, hb3, ⟨v, rfl, hv⟩⟩
      | 8, _ =>
        obtain rfl := Option.some.inj ho
        intro u x hd
        have hc := Past.cell x
        have h7 : tupR F 0 (u 7) x.1 := hd 7 (by decide) (by kernel_rfl)
        simp [go_sem, gives, frm, Act.put, nthR, Region.wanted, Below.refl]
        exact h7
      | 9, _ =>
        obtain rfl := Option.some.inj ho
        intro u x hd
        have hc := Past.cell x
        have h8 : ∃ sv, u 8 = .tuple #[sv, .int .i64 0] ∧ SliS x.1 sv F := hd 8 (by decide) (by kernel_rfl)
        have e8 := h8.choose_spec.1; have hs1 := h8.choose_spec.2; generalize h8.choose = sv at *
        simp [go_sem, gives, frm, Act.put, nthR, Region.wanted, Below.refl, e8]
        exact hs1
      | 10, _ =>
        obtain rfl := Option.some.inj ho
        intro u x hd
        have hc := Past.cell x
        have h8 : ∃ sv, u 8 = .tuple #[sv, .int .i64 0] ∧ SliS x.1 sv F := hd 8 (by decide) (by kernel_rfl)
        have e8 := h8.choose_spec.1; have hs1 := h8.choose_spec.2; generalize h8.choose = sv at *
        simp [go_sem, gives, frm, Act.put, nthR, Region.wanted, Below.refl, detR, e8]
      | 11, _ =>
        obtain rfl := Option.some.inj ho
        intro u x hd
        have hc := Past.cell x
        have d0 := hd 0 (by decide) (by kernel_rfl)
        simp only [nthR, detR, List.getD_cons_zero] at d0
        simp [go_sem, gives, frm, Act.put, nthR, detR, Region.wanted, Below.refl, d0]
      | 12, _ =>
        obtain rfl := Option.some.inj ho
        intro u x hd
        have hc := Past.cell x
        have d11 := hd 11 (by decide) (by kernel_rfl)
        simp only [nthR, detR, List.getD_cons_zero, List.getD_cons_succ] at d11
        simp [go_sem, gives, frm, Act.put, nthR, detR, Region.wanted, Below.refl, d11]
      | i + 13, h => exact absurd h (by omega)
    · intro i o hx ho
      simp only [List.mem_cons, List.not_mem_nil, or_false] at hx
      rcases hx with rfl
      · obtain rfl := Option.some.inj ho
        refine ⟨rfl, fun _ _ _ _ h => h, fun u x hd => ?_⟩
        have h8 : ∃ sv, u 8 = .tuple #[sv, .int .i64 0] ∧ SliS x.1 sv F := hd 8 (by decide) (by kernel_rfl)
        have e8 := h8.choose_spec.1; have hs1 := h8.choose_spec.2; generalize h8.choose = sv at *
        refine ⟨rfl, .int .i64 0, rfl, fun w' => ?_⟩
        simp [go_sem, frm, Act.put, e8]
    · intro u x9 hu hne
      have h9 : SliS x9.1 (u 9) F := hu 9 (by decide)
      have e12 : u 12 = .pointer (some ⟨d, 2, none⟩) := hu 12 (by decide)
      obtain ⟨vb, e9⟩ : ∃ vb, u 9 = vb := ⟨_, rfl⟩
      rw [e9] at h9
      simp only [frm, List.take, Act.put, e9, e12]
      obtain ⟨aF, cF, eF, _⟩ := id h9
      subst eF
      have hb9 := x9.2
      have hB9 := HW8.out.past hb9
      have hP9 := HP.out.past (HB8.out.trans (hb9.mono HB8.out.size))
      obtain ⟨w10, hw10⟩ : ∃ w10, w10 = x9.1.setCell ⟨d, 2, none⟩ (.slice aF F.length cF) := ⟨_, rfl⟩
      have hg10 : x9.1.grownBy w10 (some d) := by rw [hw10]; exact grown_set _ _ _ _
      have hni := noInt_three hB9
      have hk10 := keepI_grown hg10 hni
      have hmd := hP9.map.ne_blk hB9
      have hP10 := hP9.keepI hg10 hni hmd
      have hB10 : Blk w10 d #[.slice a n c, .map (some m), .slice aF F.length cF] 122 := by
        rw [hw10]
        simpa using hB9.set 2 (.slice aF F.length cF)
      have hS10 : ldR (fnsS (L.eraseIdx i)) (.slice aF F.length cF) w10 := ⟨F, h9.keepI hk10, HLF.out⟩
      have z1 : Below w.heap.size w x9.1 := (HBB.out.trans (HB8.out.mono HBB.out.size)).trans (hb9.mono (by have := HBB.out.size; have := HB8.out.size; omega))
      have z2 : Two d m w w10 := (two_below z1).trans (two_fst hg10)
      have B10 : Blk w10 p5 #[.int .u32 r.id, .int .u32 yq, nmV r.u, .int .i64 yf, .int .i64 yt, .slice g5 o5 k5, .slice g6 o6 k6, .slice g7 o7 k7] 50 := (HBL8.out.past hb9).grown hg10 (by have := HPZ.out; have := HDS.out; simp; omega)
      have HP10 := hidE hP10; have HB10 := hidE hB10; have HS10 := hidE hS10; have HZ2 := hidE z2; have HBL10 := hidE B10
      have HMD := hidE hmd
      have dz9 := hB9.lt; have df9 := hB9.free 2; have dc9 := hB9.cell 2
      simp at dc9
      clear hu hne h9 e9 e12 hb9 hB9 hP9 hg10 hni hk10 hP10 hB10 hS10 z1 z2 B10 q0 q1 q2 qz b0 b2 b7 bz hmd
      generalize x9.1 = w9' at *
      go_upto_region 6 with fail
      rw [← hw10]
      clear hw10 dz9 df9 dc9
      have q0 := HB10.out.cell 0; have q1 := HB10.out.cell 1; have qz := HB10.out.lt
      have b0 := HBL10.out.cell 0; have b2 := HBL10.out.cell 2; have bz := HBL10.out.lt
      simp at q0 q1 b0 b2
      have hsl := look_rows HP10.out.planC r.u
      have HSL := hidE hsl
      have hlk := fun (x : Past w10) => (HP10.out.past x.2).map.lookup (P := Tryz.prog) (t := 76) (k := 9) (e := 31) Tryz.underlying9 Tryz.underlying76 (Tryz.zeroRows x.1) HYL.out
      obtain ⟨ar, cr, er, _⟩ := id hsl
      rw [er] at HSL hlk
      clear hsl er
      refine wp_region_J 10 [] (nthR [detR (.pointer (some ⟨d, 0, none⟩)), detR (.pointer (some ⟨d, 0, none⟩)), detR (.pointer (some ⟨d, 0, none⟩)), detR (.pointer (some ⟨d, 1, none⟩)), detR (.map (some m)), detR (.pointer (some ⟨p5, 2, none⟩)), detR (nmV r.u), detR (.slice ar (rows r.u).length cr), detR (.int .i64 (rows r.u).length), detR (.int .i64 0)]) (fun _ => false) (by kernel_rfl) (by decide) (by kernel_rfl) (stab_nth (by intro r hr; simp only [List.mem_cons, List.not_mem_nil, or_false] at hr; rcases hr with rfl | rfl | rfl | rfl | rfl | rfl | rfl | rfl | rfl | rfl <;> first | exact stab_det _)) ?_ ?_ ?_
      · intro i o hi ho
        match i, hi with
        | 0, _ =>
          obtain rfl := Option.some.inj ho
          intro u x hd
          have hc := Past.cell x
          simp [go_sem, gives, frm, Act.put, nthR, detR, Region.wanted, Below.refl]
        | 1, _ =>
          obtain rfl := Option.some.inj ho
          intro u x hd
          have hc := Past.cell x
          have d0 := hd 0 (by decide) (by kernel_rfl)
          simp only [nthR, detR, List.getD_cons_zero] at d0
          simp [go_sem, gives, frm, Act.put, nthR, detR, Region.wanted, Below.refl, d0]
        | 2, _ =>
          obtain rfl := Option.some.inj ho
          intro u x hd
          have hc := Past.cell x
          have d1 := hd 1 (by decide) (by kernel_rfl)
          simp only [nthR, detR, List.getD_cons_zero, List.getD_cons_succ] at d1
          simp [go_sem, gives, frm, Act.put, nthR, detR, Region.wanted, Below.refl, d1]
        | 3, _ =>
          obtain rfl := Option.some.inj ho
          intro u x hd
          have hc := Past.cell x
          have d2 := hd 2 (by decide) (by kernel_rfl)
          simp only [nthR, detR, List.getD_cons_zero, List.getD_cons_succ] at d2
          simp [go_sem, gives, frm, Act.put, nthR, detR, Region.wanted, Below.refl, d2]
        | 4, _ =>
          obtain rfl := Option.some.inj ho
          intro u x hd
          have hc := Past.cell x
          have d3 := hd 3 (by decide) (by kernel_rfl)
          simp only [nthR, detR, List.getD_cons_zero, List.getD_cons_succ] at d3
          simp [go_sem, gives, frm, Act.put, nthR, detR, Region.wanted, Below.refl, hc, d3, q1, qz]
        | 5, _ =>
          obtain rfl := Option.some.inj ho
          intro u x hd
          have hc := Past.cell x
          simp [go_sem, gives, frm, Act.put, nthR, detR, Region.wanted, Below.refl]
        | 6, _ =>
          obtain rfl := Option.some.inj ho
          intro u x hd
          have hc := Past.cell x
          have d5 := hd 5 (by decide) (by kernel_rfl)
          simp only [nthR, detR, List.getD_cons_zero, List.getD_cons_succ] at d5
          simp [go_sem, gives, frm, Act.put, nthR, detR, Region.wanted, Below.refl, hc, d5, b2, bz]
        | 7, _ =>
          obtain rfl := Option.some.inj ho
          intro u x hd
          have hc := Past.cell x
          have d4 := hd 4 (by decide) (by kernel_rfl)
          have d6 := hd 6 (by decide) (by kernel_rfl)
          simp only [nthR, detR, List.getD_cons_zero, List.getD_cons_succ] at d4 d6
          have hlk2 := hlk x
          simp [go_sem, gives, frm, Act.put, nthR, Region.wanted, Below.refl, d4, d6, detR, hlk2]
        | 8, _ =>
          obtain rfl := Option.some.inj ho
          intro u x hd
          have hc := Past.cell x
          have e7 : u 7 = .slice ar (rows r.u).length cr := hd 7 (by decide) (by kernel_rfl)
          simp [go_sem, gives, frm, Act.put, nthR, Region.wanted, Below.refl, detR, e7]
        | 9, _ =>
          obtain rfl := Option.some.inj ho
          intro u x hd
          have hc := Past.cell x
          simp [go_sem, gives, nthR, detR, Region.wanted, Below.refl]
        | i + 10, h => exact absurd h (by omega)
      · intro i o hx ho
        simp at hx
      · intro u x9 hu hne
        have e7 : u 7 = .slice ar (rows r.u).length cr := hu 7 (by decide)
        have e8 : u 8 = .int .i64 (rows r.u).length := hu 8 (by decide)
        have e9 : u 9 = .int .i64 0 := hu 9 (by decide)
        simp only [frm, List.take, Act.put, e7, e8, e9]
        have hb11 := x9.2
        have HP11 := hidE (HP10.out.past hb11); have HB11 := hidE (HB10.out.past hb11); have HS11 := hidE (stab_ld _ _ _ _ HS10.out hb11); have HBL11 := hidE (HBL10.out.past hb11)
        have HZ11 := hidE (HZ2.out.trans (two_below hb11))
        have hsl := HSL.out.past hb11
        have hfw := HP10.out.fewRows r.u
        clear hu hne e7 e8 e9 hb11 hlk HSL q0 q1 qz b0 b2 bz HP10 HB10 HS10 HBL10 HZ2 HSB HS8
        generalize x9.1 = W at *
        have HSL := hidE hsl
        obtain ⟨_, _, e0, hc1, hc2, hc3, hc4, hc5⟩ := id hsl
        cases e0
        have HC4 := hidE hc4; have HFIT := hidE hc5
        have b0 := HBL11.out.cell 0; have bz := HBL11.out.lt
        simp at b0
        obtain ⟨ix, hix, hx0, hx1, hx2⟩ := info_parts Tryz.infoRsv
        have HI := hidE hix; have HZ0 := hidE hx0; have HZ1 := hidE hx1; have HZ2 := hidE hx2
        clear hix hx0 hx1 hx2
        have HMEM := hidE (fun k (h : k < (rows r.u).length) => getD_memRw h)
        have HTK := hidE (fun k (h : k < (rows r.u).length) => take_filter (id := r.id) h)
        clear hsl hc3 hc4 hc5
        generalize hrr : rows r.u = RR at *
        have HRR := hidE hrr
        clear hrr
        go_upto_region 7 with fail
        go_loopw [7, 44] (fun sv s wr => ∃ (k : Nat), s = .int .i64 k ∧ k ≤ RR.length ∧ wr.ownsRow W.heap.size 50 8 sv ((RR.take k).filter fun x => decide (x.id ≠ r.id)).length (cellsRw ((RR.take k).filter fun x => decide (x.id ≠ r.id))) ∧ Below W.heap.size W wr) (fun _ s _ => RR.length - (intOf s).toNat)
        case atStart => exact ⟨0, rfl, Nat.zero_le _, own_nil _ _ _, Below.refl _ _⟩
        case round =>
          obtain ⟨k, rfl, hk, ho, hb⟩ := hrel
          have hfl : ((RR.take k).filter fun x => decide (x.id ≠ r.id)).length ≤ k := Nat.le_trans (List.length_filter_le _ _) (by simp; omega)
          have HO := hidE ho; have HB := hidE hb
          obtain ⟨av, cv, rfl⟩ := own_sli ho
          by_cases hlt : k < RR.length
          · obtain ⟨b, off, rfl, hbz, hcc⟩ := HC4.out (by omega)
            have hbr : b < wr.heap.size := Nat.lt_of_lt_of_le hbz hb.size
            obtain ⟨e0, e1, e2, e3, e4, e5, e6, e7⟩ := hcc.get hlt
            rw [← hb.cell hbz] at e0 e1 e2 e3 e4 e5 e6 e7
            have hft := HFIT.out _ (HMEM.out k hlt)
            have htk := HTK.out k hlt
            have b0' := (hb.cell (p := ⟨p5, 0, none⟩) bz).trans b0
            have bz' : p5 < wr.heap.size := Nat.lt_of_lt_of_le bz hb.size
            generalize hll : (RR.take k).filter (fun x => decide (x.id ≠ r.id)) = LL at *
            have HLL := hidE hll
            clear hcc HMEM HC4 HFIT ho hll b0 bz
            generalize RR.getD k rw0 = x at *
            obtain ⟨xi', xq', xu', xf', xt', xT, xW, xA⟩ := x
            obtain ⟨⟨a5', n5', c5', z5⟩, ⟨a6', n6', c6', z6⟩, ⟨a7', n7', c7', z7⟩, hxu⟩ := hft
            simp only at z5 z6 z7 e0 e1 e2 e3 e4 e5 e6 e7 hxu htk
            subst z5 z6 z7
            obtain ⟨w4, hw4⟩ : ∃ w4, w4 = wr.alloc (Obj.cells #[.int .u32 xi', .int .u32 xq', nmV xu', .int .i64 xf', .int .i64 xt', .slice a5' n5' c5', .slice a6' n6' c6', .slice a7' n7' c7'] 50) := ⟨_, rfl⟩
            have B4 : Blk w4 wr.heap.size #[.int .u32 xi', .int .u32 xq', nmV xu', .int .i64 xf', .int .i64 xt', .slice a5' n5' c5', .slice a6' n6' c6', .slice a7' n7' c7'] 50 := by rw [hw4]; exact Blk.made _ _ _
            have hb4 : Below wr.heap.size wr w4 := by rw [hw4]; exact (Below.refl _ _).alloc (Nat.le_refl _) _
            have HB4 := hidE (hb.trans (hb4.mono hb.size)); have HO4 := hidE (own_below HO.out hb4)
            have b0'' := (hb4.cell (p := ⟨p5, 0, none⟩) bz').trans b0'
            have bz'' : p5 < w4.heap.size := Nat.lt_of_lt_of_le bz' hb4.size
            by_cases heq : xi' = r.id
            · rw [if_pos heq, List.append_nil] at htk
              have dne : (xi' != r.id) = false := by rw [bne_eq_false_iff_eq]; exact heq
              have HT := hidE htk
              clear heq htk HTK
              go_upto_region 9 with fail
              rw [← hw4]
              clear hw4 e0 e1 e2 e3 e4 e5 e6 e7 b0' bz' hbr
              have g0 := B4.cell 0; have gz := B4.lt
              simp at g0
              clear B4 hb4
              go_wp2
              exact ⟨⟨k + 1, by go_num, by omega, by rw [HT.out]; exact HO4.out, HB4.out⟩, by simp [intOf]; omega⟩
            · rw [if_neg heq] at htk
              have dne : (xi' != r.id) = true := bne_iff_ne.2 heq
              have HT := hidE htk
              clear heq htk HTK
              go_upto_region 9 with fail
              rw [← hw4]
              clear hw4 e0 e1 e2 e3 e4 e5 e6 e7 b0' bz' hbr
              have g0 := B4.cell 0; have g1 := B4.cell 1; have g2 := B4.cell 2; have g3 := B4.cell 3; have g4 := B4.cell 4; have g5' := B4.cell 5; have g6' := B4.cell 6; have g7' := B4.cell 7; have gz := B4.lt
              simp at g0 g1 g2 g3 g4 g5' g6' g7'
              have hz4 := hb4.size; have hz5 := hb.size
              clear B4 hb4
              go_wp2_with (at_builtin; go_loud (refine list_appW rfl (.tmp 53) (.tmp 55) 31 rfl W.heap.size 50 ix _ 8 112 Tryz.underlying31 HI.out HZ0.out HZ1.out HZ2.out rfl (by decide) (.slice av LL.length cv) LL.length (cellsRw LL) rfl (own_below HO4.out (by (repeat (first | exact Below.refl _ _ | assumption | refine balloc ?_ _ | refine below_drewN ?_ _ | refine bstep (by assumption) ?_ | refine bstep (Past.prop _) ?_ | refine Below.setCell ?_ (by first | exact Nat.le_refl _ | (simp; done) | (simp; omega)) _)))) _ 1 [.int .u32 xi', .int .u32 xq', nmV xu', .int .i64 xf', .int .i64 xt', .slice a5' n5' c5', .slice a6' n6' c6', .slice a7' n7' c7'] rfl (srcV_new (Blk.made_at _ _ _ _ (by first | rfl | (simp; done))) rfl (by intro y hy; simp at hy; rcases hy with rfl | rfl | rfl | rfl | rfl | rfl | rfl | rfl <;> rfl)) (by omega) (by omega) (by simp; omega) ?_); intro v' w7 own' hg')
              obtain ⟨w6, hw6⟩ : ∃ w6, w6 = w4.alloc (Obj.cells #[.int .u32 xi', .int .u32 xq', nmV xu', .int .i64 xf', .int .i64 xt', .slice a5' n5' c5', .slice a6' n6' c6', .slice a7' n7' c7'] 50) := ⟨_, rfl⟩
              rw [← hw6] at hg'
              have hb6 : Below w4.heap.size w4 w6 := by rw [hw6]; exact (Below.refl _ _).alloc (Nat.le_refl _) _
              have ho6 := own_below HO4.out hb6
              have hb7 : Below W.heap.size W w7 := Below.grown (HB4.out.trans (hb6.mono HB4.out.size)) hg' (by have := hb6.size; omega) (fun k e => own_block ho6 e)
              have ho8 : w7.ownsRow W.heap.size 50 8 v' (LL ++ [(⟨xi', xq', xu', xf', xt', .slice a5' n5' c5', .slice a6' n6' c6', .slice a7' n7' c7'⟩ : Rw)]).length (cellsRw (LL ++ [(⟨xi', xq', xu', xf', xt', .slice a5' n5' c5', .slice a6' n6' c6', .slice a7' n7' c7'⟩ : Rw)])) := by rw [List.length_append, List.length_singleton, cellsRw_app]; exact own'
              rw [← HT.out] at ho8
              have HO8 := hidE ho8; have HB7 := hidE hb7
              obtain ⟨a8, c8, rfl⟩ := own_sli own'
              clear own' hg' hb6 ho6 hb7 ho8 hw6 HO4 HB4
              go_wp2
              exact ⟨⟨k + 1, by go_num, by omega, HO8.out, HB7.out⟩, by simp [intOf]; omega⟩
          · have hkl : k = RR.length := by omega
            have ho9 := HO.out
            rw [List.take_of_length_le (by omega)] at ho9 hfl
            have hP9 := HP11.out.past HB.out
            have hB9 := HB11.out.past HB.out
            have hS9 := stab_ld _ _ _ _ HS11.out HB.out
            have hRf : RwsF wr (RR.filter fun x => decide (x.id ≠ r.id)) ((rvs r.u).filter fun x => decide (x.id ≠ r.id)) := rwsF_filter (by have := hP9.vals r.u; rw [HRR.out] at this; exact this)
            obtain ⟨_, hxi, hpe⟩ := hP9.erase HNO.out HR.out
            have hgo := good_erase HP.out.good i
            rw [← hxi] at hpe
            have hX : SliRw wr (.slice av _ cv) (RR.filter fun x => decide (x.id ≠ r.id)) := sliRw_own ho9 (fun x hx => HFIT.out x (List.mem_filter.1 hx).1)
            have hz9 : Two d m w wr := HZ11.out.trans (two_below HB.out)
            have hus : ∀ y ∈ (rvs r.u).filter (fun x => decide (x.id ≠ r.id)), y.u = r.u := fun y hy => hP9.user r.u y (List.mem_filter.1 hy).1
            have hsm : ∀ y ∈ L.eraseIdx i, y.small := fun y hy => hP9.small y ((List.eraseIdx_sublist L i).subset hy)
            have b9 := HBL11.out.past HB.out
            rw [List.take_of_length_le (by omega)]
            generalize (RR.filter fun x => decide (x.id ≠ r.id)) = LL at *
            generalize hgR : ((rvs r.u).filter fun x => decide (x.id ≠ r.id)) = R' at *
            have HP9 := hidE hP9; have HB9 := hidE hB9; have HS9 := hidE hS9; have HRF := hidE hRf; have HPE := hidE hpe; have HGO := hidE hgo; have HX := hidE hX; have HZ9 := hidE hz9; have HUS := hidE hus; have HSM := hidE hsm; have HB9' := hidE b9
            clear hP9 hB9 hS9 hRf hpe hgo hX hz9 hus hsm b9 hgR hxi ho9 ho HO HB HMEM HTK HC4 HFIT b0 bz hb hkl
            have q0 := HB9.out.cell 0; have q1 := HB9.out.cell 1; have qz := HB9.out.lt
            have b2 := HB9'.out.cell 2; have bz := HB9'.out.lt
            simp at q0 q1 b2
            by_cases hz : LL.length = 0
            · have hR0 : R' = [] := List.eq_nil_of_length_eq_zero (by rw [HRF.out.1]; exact hz)
              have dz : ((LL.length : Int) == 0) = true := beq_iff_eq.2 (by omega)
              have HR0 := hidE hR0
              clear hz hR0
              go_upto_region 13 with fail
              refine wp_region_J 7 [] (nthR [detR (.pointer (some ⟨d, 0, none⟩)), detR (.pointer (some ⟨d, 0, none⟩)), detR (.pointer (some ⟨d, 0, none⟩)), detR (.pointer (some ⟨d, 1, none⟩)), detR (.map (some m)), detR (.pointer (some ⟨p5, 2, none⟩)), detR (nmV r.u)]) (fun _ => false) (by kernel_rfl) (by decide) (by kernel_rfl) (stab_nth (by intro r hr; simp only [List.mem_cons, List.not_mem_nil, or_false] at hr; rcases hr with rfl | rfl | rfl | rfl | rfl | rfl | rfl <;> first | exact stab_det _)) ?_ ?_ ?_
              · intro i o hi ho
                match i, hi with
                | 0, _ =>
                  obtain rfl := Option.some.inj ho
                  intro u x hd
                  have hc := Past.cell x
                  simp [go_sem, gives, frm, Act.put, nthR, detR, Region.wanted, Below.refl]
                | 1, _ =>
                  obtain rfl := Option.some.inj ho
                  intro u x hd
                  have hc := Past.cell x
                  have d0 := hd 0 (by decide) (by kernel_rfl)
                  simp only [nthR, detR, List.getD_cons_zero] at d0
                  simp [go_sem, gives, frm, Act.put, nthR, detR, Region.wanted, Below.refl, d0]
                | 2, _ =>
                  obtain rfl := Option.some.inj ho
                  intro u x hd
                  have hc := Past.cell x
                  have d1 := hd 1 (by decide) (by kernel_rfl)
                  simp only [nthR, detR, List.getD_cons_zero, List.getD_cons_succ] at d1
                  simp [go_sem, gives, frm, Act.put, nthR, detR, Region.wanted, Below.refl, d1]
                | 3, _ =>
                  obtain rfl := Option.some.inj ho
                  intro u x hd
                  have hc := Past.cell x
                  have d2 := hd 2 (by decide) (by kernel_rfl)
                  simp only [nthR, detR, List.getD_cons_zero, List.getD_cons_succ] at d2
                  simp [go_sem, gives, frm, Act.put, nthR, detR, Region.wanted, Below.refl, d2]
                | 4, _ =>
                  obtain rfl := Option.some.inj ho
                  intro u x hd
                  have hc := Past.cell x
                  have d3 := hd 3 (by decide) (by kernel_rfl)
                  simp only [nthR, detR, List.getD_cons_zero, List.getD_cons_succ] at d3
                  simp [go_sem, gives, frm, Act.put, nthR, detR, Region.wanted, Below.refl, hc, d3, q1, qz]
                | 5, _ =>
                  obtain rfl := Option.some.inj ho
                  intro u x hd
                  have hc := Past.cell x
                  simp [go_sem, gives, frm, Act.put, nthR, detR, Region.wanted, Below.refl]
                | 6, _ =>
                  obtain rfl := Option.some.inj ho
                  intro u x hd
                  have hc := Past.cell x
                  have d5 := hd 5 (by decide) (by kernel_rfl)
                  simp only [nthR, detR, List.getD_cons_zero, List.getD_cons_succ] at d5
                  simp [go_sem, gives, frm, Act.put, nthR, detR, Region.wanted, Below.refl, hc, d5, b2, bz]
                | i + 7, h => exact absurd h (by omega)
              · intro i o hx ho
                simp at hx
              · intro u x9 hu hne
                have e4 : u 4 = .map (some m) := hu 4 (by decide)
                have e6 : u 6 = nmV r.u := hu 6 (by decide)
                simp only [frm, List.take, Act.put, e4, e6]
                have hb13 := x9.2
                have hP13 := HP9.out.past hb13
                have hB13 := HB9.out.past hb13
                obtain ⟨w14, hdel, hM14, hg14, hz14⟩ := hP13.map.delete (P := Tryz.prog) (t := 76) (k := 9) (e := 31) 0 Tryz.underlying9 Tryz.underlying76 HYL.out
                have hk14 := keepI_grown hg14 (noInt_map hP13.map)
                have hP14 := hP13.del hM14 hg14 (by have := HPE.out; rw [HR0.out, List.nil_append] at this; exact this) HGO.out HSM.out
                have hD14 : Dr w14 d m (.slice a n c) (L.eraseIdx i) := ⟨_, _, _, _, hB13.grown hg14 (fun e => (hP13.map.ne_blk hB13) (by cases e; rfl)), hP14, ldR_keepI (stab_ld _ _ _ _ HS9.out hb13) hk14⟩
                have z1 : Two d m w x9.1 := HZ9.out.trans (two_below hb13)
                have z2 : Two d m w w14 := z1.trans (two_snd hg14)
                have HQ := hidE (And.intro z2 hD14)
                clear hu hne e4 e6 hb13 hP13 hB13 hM14 hg14 hz14 hk14 hP14 hD14 z1 z2 q0 q1 qz b2 bz
                generalize x9.1 = w13 at *
                go_wp2
                go_ret
                exact ⟨rfl, HQ.out.1, HQ.out.2⟩
            · have hRn : R' ≠ [] := fun e => hz (by rw [← HRF.out.1, e]; rfl)
              have dz : ((LL.length : Int) == 0) = false := by rw [beq_eq_false_iff_ne]; omega
              have HRN := hidE hRn
              clear hz hRn
              go_upto_region 14 with fail
              refine wp_region_J 8 [] (nthR [detR (.pointer (some ⟨d, 0, none⟩)), detR (.pointer (some ⟨d, 0, none⟩)), detR (.pointer (some ⟨d, 0, none⟩)), detR (.pointer (some ⟨d, 1, none⟩)), detR (.map (some m)), detR (.pointer (some ⟨p5, 2, none⟩)), detR (nmV r.u), detR (.slice av LL.length cv)]) (fun _ => false) (by kernel_rfl) (by decide) (by kernel_rfl) (stab_nth (by intro r hr; simp only [List.mem_cons, List.not_mem_nil, or_false] at hr; rcases hr with rfl | rfl | rfl | rfl | rfl | rfl | rfl | rfl <;> first | exact stab_det _)) ?_ ?_ ?_
              · intro i o hi ho
                match i, hi with
                | 0, _ =>
                  obtain rfl := Option.some.inj ho
                  intro u x hd
                  have hc := Past.cell x
                  simp [go_sem, gives, frm, Act.put, nthR, detR, Region.wanted, Below.refl]
                | 1, _ =>
                  obtain rfl := Option.some.inj ho
                  intro u x hd
                  have hc := Past.cell x
                  have d0 := hd 0 (by decide) (by kernel_rfl)
                  simp only [nthR, detR, List.getD_cons_zero] at d0
                  simp [go_sem, gives, frm, Act.put, nthR, detR, Region.wanted, Below.refl, d0]
                | 2, _ =>
                  obtain rfl := Option.some.inj ho
                  intro u x hd
                  have hc := Past.cell x
                  have d1 := hd 1 (by decide) (by kernel_rfl)
                  simp only [nthR, detR, List.getD_cons_zero, List.getD_cons_succ] at d1
                  simp [go_sem, gives, frm, Act.put, nthR, detR, Region.wanted, Below.refl, d1]
                | 3, _ =>
                  obtain rfl := Option.some.inj ho
                  intro u x hd
                  have hc := Past.cell x
                  have d2 := hd 2 (by decide) (by kernel_rfl)
                  simp only [nthR, detR, List.getD_cons_zero, List.getD_cons_succ] at d2
                  simp [go_sem, gives, frm, Act.put, nthR, detR, Region.wanted, Below.refl, d2]
                | 4, _ =>
                  obtain rfl := Option.some.inj ho
                  intro u x hd
                  have hc := Past.cell x
                  have d3 := hd 3 (by decide) (by kernel_rfl)
                  simp only [nthR, detR, List.getD_cons_zero, List.getD_cons_succ] at d3
                  simp [go_sem, gives, frm, Act.put, nthR, detR, Region.wanted, Below.refl, hc, d3, q1, qz]
                | 5, _ =>
                  obtain rfl := Option.some.inj ho
                  intro u x hd
                  have hc := Past.cell x
                  simp [go_sem, gives, frm, Act.put, nthR, detR, Region.wanted, Below.refl]
                | 6, _ =>
                  obtain rfl := Option.some.inj ho
                  intro u x hd
                  have hc := Past.cell x
                  have d5 := hd 5 (by decide) (by kernel_rfl)
                  simp only [nthR, detR, List.getD_cons_zero, List.getD_cons_succ] at d5
                  simp [go_sem, gives, frm, Act.put, nthR, detR, Region.wanted, Below.refl, hc, d5, b2, bz]
                | 7, _ =>
                  obtain rfl := Option.some.inj ho
                  intro u x hd
                  have hc := Past.cell x
                  simp [go_sem, gives, frm, Act.put, nthR, detR, Region.wanted, Below.refl]
                | i + 8, h => exact absurd h (by omega)
              · intro i o hx ho
                simp at hx
              · intro u x9 hu hne
                have e4 : u 4 = .map (some m) := hu 4 (by decide)
                have e6 : u 6 = nmV r.u := hu 6 (by decide)
                have e7 : u 7 = .slice av LL.length cv := hu 7 (by decide)
                simp only [frm, List.take, Act.put, e4, e6, e7]
                have hb13 := x9.2
                have hP13 := HP9.out.past hb13
                have hB13 := HB9.out.past hb13
                obtain ⟨w14, hup, hM14, hg14, hz14⟩ := hP13.map.update (P := Tryz.prog) (t := 76) (k := 9) (e := 31) Tryz.underlying9 Tryz.underlying76 HYL.out (.slice av LL.length cv)
                have hk14 := keepI_grown hg14 (noInt_map hP13.map)
                have hP14 := hP13.put hM14 hg14 ((HX.out.past hb13).keepI hk14) ((HRF.out.past hb13).keepI hk14) HRN.out HUS.out HPE.out HGO.out HSM.out
                have hD14 : Dr w14 d m (.slice a n c) (L.eraseIdx i) := ⟨_, _, _, _, hB13.grown hg14 (fun e => (hP13.map.ne_blk hB13) (by cases e; rfl)), hP14, ldR_keepI (stab_ld _ _ _ _ HS9.out hb13) hk14⟩
                have z1 : Two d m w x9.1 := HZ9.out.trans (two_below hb13)
                have z2 : Two d m w w14 := z1.trans (two_snd hg14)
                have HQ := hidE (And.intro z2 hD14)
                clear hu hne e4 e6 e7 hb13 hP13 hB13 hM14 hg14 hz14 hk14 hP14 hD14 z1 z2 q0 q1 qz b2 bz
                generalize x9.1 = w13 at *
                go_wp2
                go_ret
                exact ⟨rfl, HQ.out.1, HQ.out.2⟩
end Go.Proofs.YtpoejeambnbcaaaGreat

namespace Go.Proofs.YtpoejeambnbcaaaGreat
open Go.ChangeShapes Go.WideShapes Go.ChangeAt Go.RowKit
attribute [local irreducible] Go.Calls

theorem Dr.past {w w' : World} {d m : Nat} {vc : Value} {L : List Rv} (h : Dr w d m vc L) (hb : Below w.heap.size w w') : Dr w' d m vc L := by
  obtain ⟨U, rows, rvs, vs, h1, h2, h3⟩ := h.has
  exact ⟨U, rows, rvs, vs, h1.past hb, h2.past hb, stab_ld _ _ _ _ h3 hb⟩
theorem Dr.good {w : World} {d m : Nat} {vc : Value} {L : List Rv} (h : Dr w d m vc L) : GoodL L := by
  obtain ⟨U, rows, rvs, vs, h1, h2, h3⟩ := h.has
  exact h2.good
theorem Dr.lt {w : World} {d m : Nat} {vc : Value} {L : List Rv} (h : Dr w d m vc L) : d < w.heap.size := by
  obtain ⟨U, rows, rvs, vs, h1, h2, h3⟩ := h.has
  exact h1.lt
theorem Dr.ltm {w : World} {d m : Nat} {vc : Value} {L : List Rv} (h : Dr w d m vc L) : m < w.heap.size := by
  obtain ⟨U, rows, rvs, vs, h1, h2, h3⟩ := h.has
  exact h2.map.lt
def fdtR : Value → World → Prop := fun v _ => ∃ y, v = .tuple #[rwV y, .bool true] ∧ y.fit
theorem stab_fdt : Stab fdtR := fun _ _ _ h _ => h
def fdvR : Value → World → Prop := fun v _ => ∃ y, v = rwV y ∧ y.fit
theorem stab_fdv : Stab fdvR := fun _ _ _ h _ => h
/-- What one change says. -/
def OneIs (w : World) (d m : Nat) (vc : Value) (q : List Rv × Int) (e : Ending) (w' : World) : Prop := Two d m w w' ∧ e = .returned (.int .i64 q.2) ∧ (q.2 = 0 → Dr w' d m vc q.1)
theorem may_f {w : World} {x : Rw} {r : Rv} (h : RwF w x r) (hs : r.small) : Calls Tryz.prog 21 #[rwV x] w fun e w' => e = .returned (.bool r.ok) ∧ Below w.heap.size w w' := by
  obtain ⟨a, cap, e, _, _, hA⟩ := h.a.1
  have := may_c x.id x.seq x.u x.fr x.to' x.vT x.vW a cap r.A w (by rw [h.u]; exact hs.2.2.2) hs.2.2.1 hA
  rw [← e] at this
  unfold Rv.ok
  rw [← h.id, ← h.u]
  exact this
theorem one_form {L : List Rv} {k : Int} {r : Rv} (h1 : ¬ 2 < k) (h2 : k ≠ 2) (h : r.ok = false) : oneS L k r = (L, 5) := by
  unfold oneS; rw [if_neg h1, if_pos ⟨h2, h⟩]
theorem one_add_there {L : List Rv} {r : Rv} {i : Nat} (h : r.ok = true) (hi : atS L r.id = some i) : oneS L 0 r = (L, 8) := by
  unfold oneS; rw [if_neg (by omega), if_neg (by simp [h]), hi]; rfl
theorem one_add_new {L : List Rv} {r : Rv} (h : r.ok = true) (hi : atS L r.id = none) : oneS L 0 r = finS L (insS L r) := by
  unfold oneS; rw [if_neg (by omega), if_neg (by simp [h]), hi]; rfl
theorem one_put_none {L : List Rv} {r : Rv} (h : r.ok = true) (hi : atS L r.id = none) : oneS L 1 r = (L, 7) := by
  unfold oneS; rw [if_neg (by omega), if_neg (by simp [h]), hi]; rfl
theorem one_put {L : List Rv} {r : Rv} {i : Nat} (h : r.ok = true) (hi : atS L r.id = some i) : oneS L 1 r = finS L (insS (L.eraseIdx i) r) := by
  unfold oneS; rw [if_neg (by omega), if_neg (by simp [h]), hi]; rfl
theorem one_drop_none {L : List Rv} {r : Rv} (hi : atS L r.id = none) : oneS L 2 r = (L, 7) := by
  unfold oneS; rw [if_neg (by omega), if_neg (by simp), hi]; rfl
theorem one_drop {L : List Rv} {r : Rv} {i : Nat} (hi : atS L r.id = some i) : oneS L 2 r = finS L (L.eraseIdx i) := by
  unfold oneS; rw [if_neg (by omega), if_neg (by simp), hi]; rfl
theorem one_bad {L : List Rv} {k : Int} {r : Rv} (h : 2 < k) : oneS L k r = (L, 2) := by
  unfold oneS; rw [if_pos h]
/-- What stays of a reservation where a draft is written. -/
theorem keepI_two {w w' : World} {d m : Nat} {a n c} {L : List Rv} (hD : Dr w d m (.slice a n c) L) (h : Two d m w w') : KeepI w w' := by
  obtain ⟨U, rows, rvs, vs, hB, hP, hS⟩ := hD.has
  obtain ⟨avs, nvs, cvs, rfl⟩ := ldR_sli hS
  refine ⟨h.size, fun b o k i hc => h.block b (World.block_lt_of_cell? w _ hc) (fun e => ?_) (fun e => ?_)⟩
  · subst e; exact noInt_three hB o k i hc
  · subst e; exact noInt_map hP.map o k i hc
theorem rwF_two {w w' : World} {d m : Nat} {a n c} {L : List Rv} {x : Rw} {r : Rv} (hx : RwF w x r) (hD : Dr w d m (.slice a n c) L) (h : Two d m w w') : RwF w' x r := hx.keepI (keepI_two hD h)
/-- The insert, as the document's end of a change. -/
theorem insert_f {d m : Nat} {a n c} {L K : List Rv} {x : Rw} {r : Rv} (w : World) (hD : Dr w d m (.slice a n c) L) (hx : RwF w x r) (hr : r.ok = true) (hs : r.small) (hid : ∀ y ∈ L, y.id ≠ r.id) (hn : L.length < 128) :
    Calls Tryz.prog 176 #[.pointer (some ⟨d, 0, none⟩), rwV x] w (OneIs w d m (.slice a n c) (finS K (insS L r))) := by
  refine (insert_c w hD hx hr hs hid hn).mono ?_
  rintro e w' ⟨hb, ⟨h1, rfl, h2⟩ | ⟨h1, rfl⟩⟩
  · have e : finS K (insS L r) = (insS L r, 0) := by unfold finS; rw [insS_len, if_neg (by omega), if_pos h1]
    rw [e]
    exact ⟨hb, rfl, fun _ => h2⟩
  · have e : finS K (insS L r) = (K, 10) := by unfold finS; rw [insS_len, if_neg (by omega), if_neg (by rw [h1]; decide)]
    rw [e]
    exact ⟨hb, rfl, fun h => absurd h (by decide : ¬ ((10 : Int) = 0))⟩
theorem drop_f {d m : Nat} {a n c} {L : List Rv} {x : Rw} {r : Rv} (w : World) (hD : Dr w d m (.slice a n c) L) (hx : RwF w x r) (hs : r.small) :
    Calls Tryz.prog 139 #[.pointer (some ⟨d, 0, none⟩), rwV x] w (OneIs w d m (.slice a n c) (oneS L 2 r)) := by
  have hf := hx.fit (by have := hs.2.2.2; unfold maxLen; omega)
  cases hi : atS L r.id with
  | none =>
    refine (drop_none w hD hx.id hf hi).mono ?_
    rintro e w' ⟨rfl, hb⟩
    rw [one_drop_none hi]
    exact ⟨hb, rfl, fun h => absurd h (by decide : ¬ ((7 : Int) = 0))⟩
  | some i =>
    obtain ⟨hlt, _⟩ := atS_some hi
    refine (drop_some w hD hx.id hf hi (List.getElem?_eq_getElem hlt)).mono ?_
    rintro e w' ⟨rfl, hb, h2⟩
    rw [one_drop hi, finS_del (good_erase hD.good i)]
    exact ⟨hb, rfl, fun _ => h2⟩

set_option maxRecDepth 100000 in
set_option maxHeartbeats 4000000 in
theorem add_bad {d m : Nat} {a n c} {L : List Rv} {x : Rw} {r : Rv} (w : World) (hD : Dr w d m (.slice a n c) L) (hx : RwF w x r) (hs : r.small) (hr : r.ok = false) :
    Calls Tryz.prog 137 #[.pointer (some ⟨d, 0, none⟩), rwV x] w (OneIs w d m (.slice a n c) (oneS L 0 r)) := by
  have hxf := hx.fit (by have := hs.2.2.2; unfold maxLen; omega)
  obtain ⟨xi, xq, xu, xf, xt, xT, xW, xA⟩ := x
  obtain ⟨⟨a5, n5, c5, q5⟩, ⟨a6, n6, c6, q6⟩, ⟨a7, n7, c7, q7⟩, _⟩ := hxf
  simp only at q5 q6 q7
  subst q5 q6 q7
  have hds := hD.lt; have hdm := hD.ltm
  obtain ⟨w0, hw0⟩ : ∃ w0, w0 = w.alloc (Obj.cells #[.int .u32 xi, .int .u32 xq, nmV xu, .int .i64 xf, .int .i64 xt, .slice a5 n5 c5, .slice a6 n6 c6, .slice a7 n7 c7] 50) := ⟨_, rfl⟩
  obtain ⟨pb, hpb⟩ : ∃ pb, pb = w.heap.size := ⟨_, rfl⟩
  have hb0 : Below w.heap.size w w0 := by rw [hw0]; (repeat (first | exact Below.refl _ _ | assumption | refine balloc ?_ _ | refine below_drewN ?_ _ | refine bstep (by assumption) ?_ | refine bstep (Past.prop _) ?_ | refine Below.setCell ?_ (by first | exact Nat.le_refl _ | (simp; done) | (simp; omega)) _))
  have B0 : Blk w0 pb #[.int .u32 xi, .int .u32 xq, nmV xu, .int .i64 xf, .int .i64 xt, .slice a5 n5 c5, .slice a6 n6 c6, .slice a7 n7 c7] 50 := by rw [hw0, hpb]; exact Blk.made _ _ _
  have HB0 := hidE B0; have HDR := hidE (hD.past hb0); have HX := hidE (hx.past hb0); have HBB := hidE hb0
  have HS := hidE hs; have HDS := hidE hds; have HDM := hidE hdm
  have HMY := hidE (may_f (hx.past hb0) hs)
  rw [hr] at HMY
  have HR := hidE hr
  go_enter Tryz.func137, Tryz.ntmps137
  go_upto_region 1 with fail
  rw [← hw0, ← hpb]
  have b0 := B0.cell 0; have b1 := B0.cell 1; have b2 := B0.cell 2; have b3 := B0.cell 3; have b4 := B0.cell 4; have b5 := B0.cell 5; have b6 := B0.cell 6; have b7 := B0.cell 7; have bz := B0.lt
  simp at b0 b1 b2 b3 b4 b5 b6 b7
  have HPB := hidE hpb
  clear hw0 hD hx hr hb0 hpb B0 hds hdm hs
  go_wp2_with fail
  ((with_reducible refine (HMY.out).mono ?_); rintro e w1 ⟨rfl, hb1⟩)
  have HB1 := hidE hb1
  clear b0 b1 b2 b3 b4 b5 b6 b7 bz hb1 HMY
  have z1 : Two d m w w1 := two_below (HBB.out.trans (HB1.out.mono HBB.out.size))
  have HZ := hidE z1
  clear z1
  go_wp2
  go_ret
  rw [one_form (by omega) (by omega) HR.out]
  exact ⟨HZ.out, rfl, fun h => absurd h (by decide : ¬ ((5 : Int) = 0))⟩
set_option maxRecDepth 100000 in
set_option maxHeartbeats 4000000 in
theorem put_bad {d m : Nat} {a n c} {L : List Rv} {x : Rw} {r : Rv} (w : World) (hD : Dr w d m (.slice a n c) L) (hx : RwF w x r) (hs : r.small) (hr : r.ok = false) :
    Calls Tryz.prog 138 #[.pointer (some ⟨d, 0, none⟩), rwV x] w (OneIs w d m (.slice a n c) (oneS L 1 r)) := by
  have hxf := hx.fit (by have := hs.2.2.2; unfold maxLen; omega)
  obtain ⟨xi, xq, xu, xf, xt, xT, xW, xA⟩ := x
  obtain ⟨⟨a5, n5, c5, q5⟩, ⟨a6, n6, c6, q6⟩, ⟨a7, n7, c7, q7⟩, _⟩ := hxf
  simp only at q5 q6 q7
  subst q5 q6 q7
  have hds := hD.lt; have hdm := hD.ltm
  obtain ⟨w0, hw0⟩ : ∃ w0, w0 = w.alloc (Obj.cells #[.int .u32 xi, .int .u32 xq, nmV xu, .int .i64 xf, .int .i64 xt, .slice a5 n5 c5, .slice a6 n6 c6, .slice a7 n7 c7] 50) := ⟨_, rfl⟩
  obtain ⟨pb, hpb⟩ : ∃ pb, pb = w.heap.size := ⟨_, rfl⟩
  have hb0 : Below w.heap.size w w0 := by rw [hw0]; (repeat (first | exact Below.refl _ _ | assumption | refine balloc ?_ _ | refine below_drewN ?_ _ | refine bstep (by assumption) ?_ | refine bstep (Past.prop _) ?_ | refine Below.setCell ?_ (by first | exact Nat.le_refl _ | (simp; done) | (simp; omega)) _))
  have B0 : Blk w0 pb #[.int .u32 xi, .int .u32 xq, nmV xu, .int .i64 xf, .int .i64 xt, .slice a5 n5 c5, .slice a6 n6 c6, .slice a7 n7 c7] 50 := by rw [hw0, hpb]; exact Blk.made _ _ _
  have HB0 := hidE B0; have HDR := hidE (hD.past hb0); have HX := hidE (hx.past hb0); have HBB := hidE hb0
  have HS := hidE hs; have HDS := hidE hds; have HDM := hidE hdm
  have HMY := hidE (may_f (hx.past hb0) hs)
  rw [hr] at HMY
  have HR := hidE hr
  go_enter Tryz.func138, Tryz.ntmps138
  go_upto_region 1 with fail
  rw [← hw0, ← hpb]
  have b0 := B0.cell 0; have b1 := B0.cell 1; have b2 := B0.cell 2; have b3 := B0.cell 3; have b4 := B0.cell 4; have b5 := B0.cell 5; have b6 := B0.cell 6; have b7 := B0.cell 7; have bz := B0.lt
  simp at b0 b1 b2 b3 b4 b5 b6 b7
  have HPB := hidE hpb
  clear hw0 hD hx hr hb0 hpb B0 hds hdm hs
  go_wp2_with fail
  ((with_reducible refine (HMY.out).mono ?_); rintro e w1 ⟨rfl, hb1⟩)
  have HB1 := hidE hb1
  clear b0 b1 b2 b3 b4 b5 b6 b7 bz hb1 HMY
  have z1 : Two d m w w1 := two_below (HBB.out.trans (HB1.out.mono HBB.out.size))
  have HZ := hidE z1
  clear z1
  go_wp2
  go_ret
  rw [one_form (by omega) (by omega) HR.out]
  exact ⟨HZ.out, rfl, fun h => absurd h (by decide : ¬ ((5 : Int) = 0))⟩
set_option maxRecDepth 100000 in
set_option maxHeartbeats 8000000 in
theorem put_c {d m : Nat} {a n c} {L : List Rv} {x : Rw} {r : Rv} (w : World) (hD : Dr w d m (.slice a n c) L) (hx : RwF w x r) (hs : r.small) :
    Calls Tryz.prog 138 #[.pointer (some ⟨d, 0, none⟩), rwV x] w (OneIs w d m (.slice a n c) (oneS L 1 r)) := by
  cases hr : r.ok
  · exact put_bad w hD hx hs hr
  have hxf := hx.fit (by have := hs.2.2.2; unfold maxLen; omega)
  obtain ⟨xi, xq, xu, xf, xt, xT, xW, xA⟩ := x
  obtain ⟨⟨a5, n5, c5, q5⟩, ⟨a6, n6, c6, q6⟩, ⟨a7, n7, c7, q7⟩, _⟩ := hxf
  simp only at q5 q6 q7
  subst q5 q6 q7
  have hds := hD.lt; have hdm := hD.ltm
  obtain ⟨w0, hw0⟩ : ∃ w0, w0 = w.alloc (Obj.cells #[.int .u32 xi, .int .u32 xq, nmV xu, .int .i64 xf, .int .i64 xt, .slice a5 n5 c5, .slice a6 n6 c6, .slice a7 n7 c7] 50) := ⟨_, rfl⟩
  obtain ⟨pb, hpb⟩ : ∃ pb, pb = w.heap.size := ⟨_, rfl⟩
  have hb0 : Below w.heap.size w w0 := by rw [hw0]; (repeat (first | exact Below.refl _ _ | assumption | refine balloc ?_ _ | refine below_drewN ?_ _ | refine bstep (by assumption) ?_ | refine bstep (Past.prop _) ?_ | refine Below.setCell ?_ (by first | exact Nat.le_refl _ | (simp; done) | (simp; omega)) _))
  have B0 : Blk w0 pb #[.int .u32 xi, .int .u32 xq, nmV xu, .int .i64 xf, .int .i64 xt, .slice a5 n5 c5, .slice a6 n6 c6, .slice a7 n7 c7] 50 := by rw [hw0, hpb]; exact Blk.made _ _ _
  have HB0 := hidE B0; have HDR := hidE (hD.past hb0); have HX := hidE (hx.past hb0); have HBB := hidE hb0
  have HS := hidE hs; have HDS := hidE hds; have HDM := hidE hdm
  have HMY := hidE (may_f (hx.past hb0) hs)
  rw [hr] at HMY
  have HR := hidE hr
  go_enter Tryz.func138, Tryz.ntmps138
  go_upto_region 1 with fail
  rw [← hw0, ← hpb]
  have b0 := B0.cell 0; have b1 := B0.cell 1; have b2 := B0.cell 2; have b3 := B0.cell 3; have b4 := B0.cell 4; have b5 := B0.cell 5; have b6 := B0.cell 6; have b7 := B0.cell 7; have bz := B0.lt
  simp at b0 b1 b2 b3 b4 b5 b6 b7
  have HPB := hidE hpb
  clear hw0 hD hx hr hb0 hpb B0 hds hdm hs
  go_wp2_with fail
  ((with_reducible refine (HMY.out).mono ?_); rintro e w1 ⟨rfl, hb1⟩)
  have HB1 := hidE hb1
  clear b0 b1 b2 b3 b4 b5 b6 b7 bz hb1 HMY
  have hB1 := HB0.out.past HB1.out
  have b0 := hB1.cell 0; have b1 := hB1.cell 1; have b2 := hB1.cell 2; have b3 := hB1.cell 3; have b4 := hB1.cell 4; have b5 := hB1.cell 5; have b6 := hB1.cell 6; have b7 := hB1.cell 7; have bz := hB1.lt
  simp at b0 b1 b2 b3 b4 b5 b6 b7
  have HDP := hidE (drop_f w1 (HDR.out.past HB1.out) (HX.out.past HB1.out) HS.out)
  have z1 : Two d m w w1 := two_below (HBB.out.trans (HB1.out.mono HBB.out.size))
  have HZ := hidE z1
  clear z1
  cases hi : atS L r.id with
  | none =>
    rw [one_drop_none hi] at HDP
    have HPN := hidE (one_put_none HR.out hi)
    clear hi
    go_wp2_with fail
    ((with_reducible refine (HDP.out).mono ?_); rintro e w2 ⟨hb2, rfl, _⟩)
    have HZ2 := hidE (HZ.out.trans hb2)
    clear hb2 b0 b1 b2 b3 b4 b5 b6 b7 bz
    go_wp2
    go_ret
    rw [HPN.out]
    exact ⟨HZ2.out, rfl, fun h => absurd h (by decide : ¬ ((7 : Int) = 0))⟩
  | some i =>
    have hgo := HDR.out.good
    have hel := erase_len hi
    rw [one_drop hi, finS_del (good_erase hgo i)] at HDP
    have HPN := hidE (one_put HR.out hi)
    have HID := hidE (ids_erase hgo.ids hi)
    have HN := hidE (show (L.eraseIdx i).length < 128 from by have := hgo.few; omega)
    have HP1 := hidE hB1
    clear hi hgo hel
    go_wp2_with fail
    ((with_reducible refine (HDP.out).mono ?_); rintro e w2 ⟨hb2, rfl, hd2⟩)
    have HZ2 := hidE (HZ.out.trans hb2)
    have HD2 := hidE (hd2 rfl)
    have hB2 := hb2.blk HP1.out (by have := HPB.out; have := HDS.out; omega) (by have := HPB.out; have := HDM.out; omega)
    have HX2 := hidE (rwF_two (HX.out.past HB1.out) (HDR.out.past HB1.out) hb2)
    have HIN := hidE (insert_f (K := L) w2 HD2.out HX2.out HR.out HS.out HID.out HN.out)
    clear hb2 hd2 b0 b1 b2 b3 b4 b5 b6 b7 bz
    have b0 := hB2.cell 0; have b1 := hB2.cell 1; have b2 := hB2.cell 2; have b3 := hB2.cell 3; have b4 := hB2.cell 4; have b5 := hB2.cell 5; have b6 := hB2.cell 6; have b7 := hB2.cell 7; have bz := hB2.lt
    simp at b0 b1 b2 b3 b4 b5 b6 b7
    clear hB2
    go_wp2_with fail
    ((with_reducible refine (HIN.out).mono ?_); rintro e w3 ⟨hb3, rfl, hd3⟩)
    have HZ3 := hidE (HZ2.out.trans hb3)
    have HD3 := hidE hd3
    clear hb3 hd3 b0 b1 b2 b3 b4 b5 b6 b7 bz
    go_wp2
    go_ret
    rw [HPN.out]
    exact ⟨HZ3.out, rfl, HD3.out⟩
set_option maxRecDepth 100000 in
set_option maxHeartbeats 8000000 in
theorem add_there {d m : Nat} {a n c} {L : List Rv} {x : Rw} {r : Rv} (w : World) (hD : Dr w d m (.slice a n c) L) (hx : RwF w x r) (hs : r.small) {i : Nat} (hr : r.ok = true) (hi : atS L r.id = some i) :
    Calls Tryz.prog 137 #[.pointer (some ⟨d, 0, none⟩), rwV x] w (OneIs w d m (.slice a n c) (oneS L 0 r)) := by
  have hxf := hx.fit (by have := hs.2.2.2; unfold maxLen; omega)
  obtain ⟨xi, xq, xu, xf, xt, xT, xW, xA⟩ := x
  obtain ⟨⟨a5, n5, c5, q5⟩, ⟨a6, n6, c6, q6⟩, ⟨a7, n7, c7, q7⟩, _⟩ := hxf
  simp only at q5 q6 q7
  subst q5 q6 q7
  have hds := hD.lt; have hdm := hD.ltm
  obtain ⟨w0, hw0⟩ : ∃ w0, w0 = w.alloc (Obj.cells #[.int .u32 xi, .int .u32 xq, nmV xu, .int .i64 xf, .int .i64 xt, .slice a5 n5 c5, .slice a6 n6 c6, .slice a7 n7 c7] 50) := ⟨_, rfl⟩
  obtain ⟨pb, hpb⟩ : ∃ pb, pb = w.heap.size := ⟨_, rfl⟩
  have hb0 : Below w.heap.size w w0 := by rw [hw0]; (repeat (first | exact Below.refl _ _ | assumption | refine balloc ?_ _ | refine below_drewN ?_ _ | refine bstep (by assumption) ?_ | refine bstep (Past.prop _) ?_ | refine Below.setCell ?_ (by first | exact Nat.le_refl _ | (simp; done) | (simp; omega)) _))
  have B0 : Blk w0 pb #[.int .u32 xi, .int .u32 xq, nmV xu, .int .i64 xf, .int .i64 xt, .slice a5 n5 c5, .slice a6 n6 c6, .slice a7 n7 c7] 50 := by rw [hw0, hpb]; exact Blk.made _ _ _
  have HB0 := hidE B0; have HDR := hidE (hD.past hb0); have HX := hidE (hx.past hb0); have HBB := hidE hb0
  have HS := hidE hs; have HDS := hidE hds; have HDM := hidE hdm
  have HMY := hidE (may_f (hx.past hb0) hs)
  rw [hr] at HMY
  have HR := hidE hr
  go_enter Tryz.func137, Tryz.ntmps137
  go_upto_region 1 with fail
  rw [← hw0, ← hpb]
  have b0 := B0.cell 0; have b1 := B0.cell 1; have b2 := B0.cell 2; have b3 := B0.cell 3; have b4 := B0.cell 4; have b5 := B0.cell 5; have b6 := B0.cell 6; have b7 := B0.cell 7; have bz := B0.lt
  simp at b0 b1 b2 b3 b4 b5 b6 b7
  have HPB := hidE hpb
  clear hw0 hD hx hr hb0 hpb B0 hds hdm hs
  go_wp2_with fail
  ((with_reducible refine (HMY.out).mono ?_); rintro e w1 ⟨rfl, hb1⟩)
  have HB1 := hidE hb1
  clear b0 b1 b2 b3 b4 b5 b6 b7 bz hb1 HMY
  obtain ⟨U, rows, rvs, vs, hB, hP, hS⟩ := HDR.out.has
  have hBw := hB.past HB1.out
  have q0 := hBw.cell 0; have q1 := hBw.cell 1; have qz := hBw.lt
  simp at q0 q1
  have hB1 := HB0.out.past HB1.out
  have b0 := hB1.cell 0; have bz := hB1.lt
  simp at b0
  have hxi : xi = r.id := HX.out.id
  have HP1 := hidE (hP.past HB1.out); have HBX := hidE hB1
  clear hB hP hS hB1 hBw
  subst hxi
  have HFD := hidE (fun w' (hb : Below w1.heap.size w1 w') => (find_some (.slice a n c) (HP1.out.past hb) hi (List.getElem?_eq_getElem (atS_some hi).1)).mono (fun e w3 (h : ∃ y, e = .returned (.tuple #[rwV y, .bool true]) ∧ InRows U rows y ∧ y.id = (L[i]'((atS_some hi).1)).id ∧ Below w'.heap.size w' w3) => show ∃ y, e = .returned (.tuple #[rwV y, .bool true]) ∧ y.fit ∧ Below w'.heap.size w' w3 from by
    obtain ⟨y, e1, h1, h2, h3⟩ := h
    exact ⟨y, e1, HP1.out.rowFit h1 h2 (List.getElem_mem _), h3⟩))
  have HPN := hidE (one_add_there HR.out hi)
  clear hi
  go_upto_region 3 with fail
  refine wp_region_J 11 [9] (nthR [detR (.pointer (some ⟨d, 0, none⟩)), detR (.pointer (some ⟨d, 0, none⟩)), detR (.pointer (some ⟨d, 0, none⟩)), detR (ctV (.slice a n c) m), detR (.pointer (some ⟨pb, 0, none⟩)), detR (.int .u32 r.id), fdtR, fdtR, fdvR, detR (.bool true), newR w1.heap.size #[.int .u32 0, .int .u32 0, .string ⟨#[]⟩, .int .i64 0, .int .i64 0, .slice none 0 0, .slice none 0 0, .slice none 0 0] 50]) (fun _ => false) (by kernel_rfl) (by decide) (by kernel_rfl) (stab_nth (by intro r hr; simp only [List.mem_cons, List.not_mem_nil, or_false] at hr; rcases hr with rfl | rfl | rfl | rfl | rfl | rfl | rfl | rfl | rfl | rfl | rfl <;> first | exact stab_det _ | exact stab_fdt | exact stab_fdv | exact stab_new _ _ _)) ?_ ?_ ?_
  · intro i o hi ho
    match i, hi with
    | 0, _ =>
      obtain rfl := Option.some.inj ho
      intro u x hd
      have hc := Past.cell x
      simp [go_sem, gives, frm, Act.put, nthR, detR, Region.wanted, Below.refl]
    | 1, _ =>
      obtain rfl := Option.some.inj ho
      intro u x hd
      have hc := Past.cell x
      have d0 := hd 0 (by decide) (by kernel_rfl)
      simp only [nthR, detR, List.getD_cons_zero] at d0
      simp [go_sem, gives, frm, Act.put, nthR, detR, Region.wanted, Below.refl, d0]
    | 2, _ =>
      obtain rfl := Option.some.inj ho
      intro u x hd
      have hc := Past.cell x
      have d1 := hd 1 (by decide) (by kernel_rfl)
      simp only [nthR, detR, List.getD_cons_zero, List.getD_cons_succ] at d1
      simp [go_sem, gives, frm, Act.put, nthR, detR, Region.wanted, Below.refl, d1]
    | 3, _ =>
      obtain rfl := Option.some.inj ho
      intro u x hd
      have hc := Past.cell x
      have d2 := hd 2 (by decide) (by kernel_rfl)
      simp only [nthR, detR, List.getD_cons_zero, List.getD_cons_succ] at d2
      simp [go_sem, gives, frm, Act.put, nthR, detR, Region.wanted, Below.refl, hc, d2, q0, q1, qz]
    | 4, _ =>
      obtain rfl := Option.some.inj ho
      intro u x hd
      have hc := Past.cell x
      simp [go_sem, gives, frm, Act.put, nthR, detR, Region.wanted, Below.refl]
    | 5, _ =>
      obtain rfl := Option.some.inj ho
      intro u x hd
      have hc := Past.cell x
      have d4 := hd 4 (by decide) (by kernel_rfl)
      simp only [nthR, detR, List.getD_cons_zero, List.getD_cons_succ] at d4
      simp [go_sem, gives, frm, Act.put, nthR, detR, Region.wanted, Below.refl, hc, d4, b0, bz]
    | 6, _ =>
      obtain rfl := Option.some.inj ho
      intro u x hd
      have hc := Past.cell x
      have d3 := hd 3 (by decide) (by kernel_rfl)
      have d5 := hd 5 (by decide) (by kernel_rfl)
      simp only [nthR, detR, List.getD_cons_zero, List.getD_cons_succ] at d3 d5
      simp [go_sem, gives, frm, Act.put, nthR, Region.wanted, d3, d5]
      (with_reducible refine (HFD.out _ (Past.prop x)).mono ?_); rintro e w3 ⟨y, rfl, h1, hb3⟩; exact ⟨_, rfl, hb3, ⟨y, rfl, h1⟩⟩
    | 7, _ =>
      obtain rfl := Option.some.inj ho
      intro u x hd
      have hc := Past.cell x
      have h6 : fdtR (u 6) x.1 := hd 6 (by decide) (by kernel_rfl)
      simp [go_sem, gives, frm, Act.put, nthR, Region.wanted, Below.refl]
      exact h6
    | 8, _ =>
      obtain rfl := Option.some.inj ho
      intro u x hd
      have hc := Past.cell x
      have h7 : ∃ y, u 7 = .tuple #[rwV y, .bool true] ∧ y.fit := hd 7 (by decide) (by kernel_rfl)
      have e7 := h7.choose_spec.1; have hs1 := h7.choose_spec.2; generalize h7.choose = y at *
      simp [go_sem, gives, frm, Act.put, nthR, Region.wanted, Below.refl, e7]
      exact ⟨y, rfl, hs1⟩
    | 9, _ =>
      obtain rfl := Option.some.inj ho
      intro u x hd
      have hc := Past.cell x
      have h7 : ∃ y, u 7 = .tuple #[rwV y, .bool true] ∧ y.fit := hd 7 (by decide) (by kernel_rfl)
      have e7 := h7.choose_spec.1; have hs1 := h7.choose_spec.2; generalize h7.choose = y at *
      simp [go_sem, gives, frm, Act.put, nthR, Region.wanted, Below.refl, detR, e7]
    | 10, _ =>
      obtain rfl := Option.some.inj ho
      intro u x hd
      have hc := Past.cell x
      simp [go_sem, gives, nthR, Region.wanted]
      exact ⟨by (repeat (first | exact Below.refl _ _ | assumption | refine balloc ?_ _ | refine below_drewN ?_ _ | refine bstep (by assumption) ?_ | refine bstep (Past.prop _) ?_ | refine Below.setCell ?_ (by first | exact Nat.le_refl _ | (simp; done) | (simp; omega)) _)), ⟨_, rfl, (Past.prop x).size, Blk.made _ _ _⟩⟩
    | i + 11, h => exact absurd h (by omega)
  · intro i o hx ho
    simp only [List.mem_cons, List.not_mem_nil, or_false] at hx
    rcases hx with rfl
    · obtain rfl := Option.some.inj ho
      refine ⟨rfl, fun _ _ _ _ h => h, fun u x hd => ?_⟩
      have h7 : ∃ y, u 7 = .tuple #[rwV y, .bool true] ∧ y.fit := hd 7 (by decide) (by kernel_rfl)
      have e7 := h7.choose_spec.1; have hs1 := h7.choose_spec.2; generalize h7.choose = y at *
      refine ⟨rfl, .bool true, rfl, fun w' => ?_⟩
      simp [go_sem, frm, Act.put, e7]
  · intro u x9 hu hne
    obtain ⟨p5, e10, p5z, B5⟩ : newR w1.heap.size #[.int .u32 0, .int .u32 0, .string ⟨#[]⟩, .int .i64 0, .int .i64 0, .slice none 0 0, .slice none 0 0, .slice none 0 0] 50 (u 10) x9.1 := hu 10 (by decide)
    obtain ⟨y, e8, hyf⟩ : fdvR (u 8) x9.1 := hu 8 (by decide)
    have e9 : u 9 = .bool true := hu 9 (by decide)
    obtain ⟨yi, yq, yu, yf, yt, yT, yW, yA⟩ := y
    obtain ⟨⟨g5, o5, k5, z5⟩, ⟨g6, o6, k6, z6⟩, ⟨g7, o7, k7, z7⟩, hyl⟩ := hyf
    simp only at z5 z6 z7 hyl
    subst z5 z6 z7
    simp only [frm, List.take, Act.put, e8, e9, e10]
    have z1 : Below w.heap.size w w1 := HBB.out.trans (HB1.out.mono HBB.out.size)
    have z2 : Below w.heap.size w x9.1 := z1.trans (x9.2.mono z1.size)
    have HQ := hidE (below_eight z2 (show w.heap.size ≤ p5 from by have := z1.size; omega) (.int .u32 yi) (.int .u32 yq) (nmV yu) (.int .i64 yf) (.int .i64 yt) (.slice g5 o5 k5) (.slice g6 o6 k6) (.slice g7 o7 k7))
    have r0 := B5.cell 0; have r1 := B5.cell 1; have r2 := B5.cell 2; have r3 := B5.cell 3; have r4 := B5.cell 4; have r5 := B5.cell 5; have r6 := B5.cell 6; have r7 := B5.cell 7; have rf := B5.free; have rz := B5.lt
    simp at r0 r1 r2 r3 r4 r5 r6 r7
    clear hu hne e8 e9 e10 z1 z2 B5 p5z q0 q1 qz b0 bz
    generalize x9.1 = w9 at *
    go_wp2
    go_ret
    rw [HPN.out]
    exact ⟨two_below HQ.out, rfl, fun h => absurd h (by decide : ¬ ((8 : Int) = 0))⟩
set_option maxRecDepth 100000 in
set_option maxHeartbeats 8000000 in
theorem add_new {d m : Nat} {a n c} {L : List Rv} {x : Rw} {r : Rv} (w : World) (hD : Dr w d m (.slice a n c) L) (hx : RwF w x r) (hs : r.small) (hr : r.ok = true) (hi : atS L r.id = none) :
    Calls Tryz.prog 137 #[.pointer (some ⟨d, 0, none⟩), rwV x] w (OneIs w d m (.slice a n c) (oneS L 0 r)) := by
  have hxf := hx.fit (by have := hs.2.2.2; unfold maxLen; omega)
  obtain ⟨xi, xq, xu, xf, xt, xT, xW, xA⟩ := x
  obtain ⟨⟨a5, n5, c5, q5⟩, ⟨a6, n6, c6, q6⟩, ⟨a7, n7, c7, q7⟩, _⟩ := hxf
  simp only at q5 q6 q7
  subst q5 q6 q7
  have hds := hD.lt; have hdm := hD.ltm
  obtain ⟨w0, hw0⟩ : ∃ w0, w0 = w.alloc (Obj.cells #[.int .u32 xi, .int .u32 xq, nmV xu, .int .i64 xf, .int .i64 xt, .slice a5 n5 c5, .slice a6 n6 c6, .slice a7 n7 c7] 50) := ⟨_, rfl⟩
  obtain ⟨pb, hpb⟩ : ∃ pb, pb = w.heap.size := ⟨_, rfl⟩
  have hb0 : Below w.heap.size w w0 := by rw [hw0]; (repeat (first | exact Below.refl _ _ | assumption | refine balloc ?_ _ | refine below_drewN ?_ _ | refine bstep (by assumption) ?_ | refine bstep (Past.prop _) ?_ | refine Below.setCell ?_ (by first | exact Nat.le_refl _ | (simp; done) | (simp; omega)) _))
  have B0 : Blk w0 pb #[.int .u32 xi, .int .u32 xq, nmV xu, .int .i64 xf, .int .i64 xt, .slice a5 n5 c5, .slice a6 n6 c6, .slice a7 n7 c7] 50 := by rw [hw0, hpb]; exact Blk.made _ _ _
  have HB0 := hidE B0; have HDR := hidE (hD.past hb0); have HX := hidE (hx.past hb0); have HBB := hidE hb0
  have HS := hidE hs; have HDS := hidE hds; have HDM := hidE hdm
  have HMY := hidE (may_f (hx.past hb0) hs)
  rw [hr] at HMY
  have HR := hidE hr
  go_enter Tryz.func137, Tryz.ntmps137
  go_upto_region 1 with fail
  rw [← hw0, ← hpb]
  have b0 := B0.cell 0; have b1 := B0.cell 1; have b2 := B0.cell 2; have b3 := B0.cell 3; have b4 := B0.cell 4; have b5 := B0.cell 5; have b6 := B0.cell 6; have b7 := B0.cell 7; have bz := B0.lt
  simp at b0 b1 b2 b3 b4 b5 b6 b7
  have HPB := hidE hpb
  clear hw0 hD hx hr hb0 hpb B0 hds hdm hs
  go_wp2_with fail
  ((with_reducible refine (HMY.out).mono ?_); rintro e w1 ⟨rfl, hb1⟩)
  have HB1 := hidE hb1
  clear b0 b1 b2 b3 b4 b5 b6 b7 bz hb1 HMY
  obtain ⟨U, rows, rvs, vs, hB, hP, hS⟩ := HDR.out.has
  have hBw := hB.past HB1.out
  have q0 := hBw.cell 0; have q1 := hBw.cell 1; have qz := hBw.lt
  simp at q0 q1
  have hB1 := HB0.out.past HB1.out
  have b0 := hB1.cell 0; have bz := hB1.lt
  simp at b0
  have hxi : xi = r.id := HX.out.id
  have HP1 := hidE (hP.past HB1.out); have HBX := hidE hB1
  clear hB hP hS hB1 hBw
  subst hxi
  have HFD := hidE (fun w' (hb : Below w1.heap.size w1 w') => find_none (.slice a n c) (HP1.out.past hb) hi)
  have HPN := hidE (one_add_new HR.out hi)
  have HID := hidE (atS_none.1 hi)
  clear hi
  go_upto_region 3 with fail
  refine wp_region_J 11 [9] (nthR [detR (.pointer (some ⟨d, 0, none⟩)), detR (.pointer (some ⟨d, 0, none⟩)), detR (.pointer (some ⟨d, 0, none⟩)), detR (ctV (.slice a n c) m), detR (.pointer (some ⟨pb, 0, none⟩)), detR (.int .u32 r.id), detR (.tuple #[rvZ, .bool false]), detR (.tuple #[rvZ, .bool false]), detR rvZ, detR (.bool false), newR w1.heap.size #[.int .u32 0, .int .u32 0, .string ⟨#[]⟩, .int .i64 0, .int .i64 0, .slice none 0 0, .slice none 0 0, .slice none 0 0] 50]) (fun _ => false) (by kernel_rfl) (by decide) (by kernel_rfl) (stab_nth (by intro r hr; simp only [List.mem_cons, List.not_mem_nil, or_false] at hr; rcases hr with rfl | rfl | rfl | rfl | rfl | rfl | rfl | rfl | rfl | rfl | rfl <;> first | exact stab_det _ | exact stab_new _ _ _)) ?_ ?_ ?_
  · intro i o hi ho
    match i, hi with
    | 0, _ =>
      obtain rfl := Option.some.inj ho
      intro u x hd
      have hc := Past.cell x
      simp [go_sem, gives, frm, Act.put, nthR, detR, Region.wanted, Below.refl]
    | 1, _ =>
      obtain rfl := Option.some.inj ho
      intro u x hd
      have hc := Past.cell x
      have d0 := hd 0 (by decide) (by kernel_rfl)
      simp only [nthR, detR, List.getD_cons_zero] at d0
      simp [go_sem, gives, frm, Act.put, nthR, detR, Region.wanted, Below.refl, d0]
    | 2, _ =>
      obtain rfl := Option.some.inj ho
      intro u x hd
      have hc := Past.cell x
      have d1 := hd 1 (by decide) (by kernel_rfl)
      simp only [nthR, detR, List.getD_cons_zero, List.getD_cons_succ] at d1
      simp [go_sem, gives, frm, Act.put, nthR, detR, Region.wanted, Below.refl, d1]
    | 3, _ =>
      obtain rfl := Option.some.inj ho
      intro u x hd
      have hc := Past.cell x
      have d2 := hd 2 (by decide) (by kernel_rfl)
      simp only [nthR, detR, List.getD_cons_zero, List.getD_cons_succ] at d2
      simp [go_sem, gives, frm, Act.put, nthR, detR, Region.wanted, Below.refl, hc, d2, q0, q1, qz]
    | 4, _ =>
      obtain rfl := Option.some.inj ho
      intro u x hd
      have hc := Past.cell x
      simp [go_sem, gives, frm, Act.put, nthR, detR, Region.wanted, Below.refl]
    | 5, _ =>
      obtain rfl := Option.some.inj ho
      intro u x hd
      have hc := Past.cell x
      have d4 := hd 4 (by decide) (by kernel_rfl)
      simp only [nthR, detR, List.getD_cons_zero, List.getD_cons_succ] at d4
      simp [go_sem, gives, frm, Act.put, nthR, detR, Region.wanted, Below.refl, hc, d4, b0, bz]
    | 6, _ =>
      obtain rfl := Option.some.inj ho
      intro u x hd
      have hc := Past.cell x
      have d3 := hd 3 (by decide) (by kernel_rfl)
      have d5 := hd 5 (by decide) (by kernel_rfl)
      simp only [nthR, detR, List.getD_cons_zero, List.getD_cons_succ] at d3 d5
      simp [go_sem, gives, frm, Act.put, nthR, Region.wanted, d3, d5]
      (with_reducible refine (HFD.out _ (Past.prop x)).mono ?_); rintro e w3 ⟨rfl, hb3⟩; exact ⟨_, rfl, hb3, rfl⟩
    | 7, _ =>
      obtain rfl := Option.some.inj ho
      intro u x hd
      have hc := Past.cell x
      have d6 : u 6 = .tuple #[rvZ, .bool false] := hd 6 (by decide) (by kernel_rfl)
      simp [go_sem, gives, frm, Act.put, nthR, Region.wanted, Below.refl, detR, d6]
    | 8, _ =>
      obtain rfl := Option.some.inj ho
      intro u x hd
      have hc := Past.cell x
      have d7 : u 7 = .tuple #[rvZ, .bool false] := hd 7 (by decide) (by kernel_rfl)
      simp [go_sem, gives, frm, Act.put, nthR, Region.wanted, Below.refl, detR, d7]
    | 9, _ =>
      obtain rfl := Option.some.inj ho
      intro u x hd
      have hc := Past.cell x
      have d7 : u 7 = .tuple #[rvZ, .bool false] := hd 7 (by decide) (by kernel_rfl)
      simp [go_sem, gives, frm, Act.put, nthR, Region.wanted, Below.refl, detR, d7]
    | 10, _ =>
      obtain rfl := Option.some.inj ho
      intro u x hd
      have hc := Past.cell x
      simp [go_sem, gives, nthR, Region.wanted]
      exact ⟨by (repeat (first | exact Below.refl _ _ | assumption | refine balloc ?_ _ | refine below_drewN ?_ _ | refine bstep (by assumption) ?_ | refine bstep (Past.prop _) ?_ | refine Below.setCell ?_ (by first | exact Nat.le_refl _ | (simp; done) | (simp; omega)) _)), ⟨_, rfl, (Past.prop x).size, Blk.made _ _ _⟩⟩
    | i + 11, h => exact absurd h (by omega)
  · intro i o hx ho
    simp only [List.mem_cons, List.not_mem_nil, or_false] at hx
    rcases hx with rfl
    · obtain rfl := Option.some.inj ho
      refine ⟨rfl, fun _ _ _ _ h => h, fun u x hd => ?_⟩
      have d7 := hd 7 (by decide) (by kernel_rfl)
      simp only [nthR, detR, List.getD_cons_zero, List.getD_cons_succ] at d7
      refine ⟨rfl, .bool false, rfl, fun w' => ?_⟩
      simp [go_sem, frm, Act.put, d7]
  · intro u x9 hu hne
    obtain ⟨p5, e10, p5z, B5⟩ : newR w1.heap.size #[.int .u32 0, .int .u32 0, .string ⟨#[]⟩, .int .i64 0, .int .i64 0, .slice none 0 0, .slice none 0 0, .slice none 0 0] 50 (u 10) x9.1 := hu 10 (by decide)
    have e8 : u 8 = rvZ := hu 8 (by decide)
    have e9 : u 9 = .bool false := hu 9 (by decide)
    simp only [frm, List.take, Act.put, e8, e9, e10]
    obtain ⟨w8, hw8⟩ : ∃ w8, w8 = ((((((((x9.1.setCell ⟨p5, 0, none⟩ (.int .u32 0)).setCell ⟨p5, 1, none⟩ (.int .u32 0)).setCell ⟨p5, 2, none⟩ (.string ⟨#[]⟩)).setCell ⟨p5, 3, none⟩ (.int .i64 0)).setCell ⟨p5, 4, none⟩ (.int .i64 0)).setCell ⟨p5, 5, none⟩ (.slice none 0 0)).setCell ⟨p5, 6, none⟩ (.slice none 0 0)).setCell ⟨p5, 7, none⟩ (.slice none 0 0)) := ⟨_, rfl⟩
    have hb8 : Below w1.heap.size w1 w8 := by rw [hw8]; exact below_eight x9.2 p5z _ _ _ _ _ _ _ _
    have HB8 := hidE hb8
    have r0 := B5.cell 0; have r1 := B5.cell 1; have r2 := B5.cell 2; have r3 := B5.cell 3; have r4 := B5.cell 4; have r5 := B5.cell 5; have r6 := B5.cell 6; have r7 := B5.cell 7; have rf := B5.free; have rz := B5.lt
    simp at r0 r1 r2 r3 r4 r5 r6 r7
    clear hu hne e8 e9 e10 hb8 B5 p5z q0 q1 qz b0 bz HFD
    generalize x9.1 = w9 at *
    go_upto_region 6 with fail
    rw [← hw8]
    clear hw8 r0 r1 r2 r3 r4 r5 r6 r7 rf rz
    have hD8 := (HDR.out.past HB1.out).past HB8.out
    obtain ⟨U2, rows2, rvs2, vs2, hB2, hP2, hS2⟩ := hD8.has
    have q0 := hB2.cell 0; have q1 := hB2.cell 1; have qz := hB2.lt
    simp at q0 q1
    have HCT := hidE (count_b (.slice a n c) hP2)
    have HD8 := hidE hD8; have HX8 := hidE ((HX.out.past HB1.out).past HB8.out); have HBX8 := hidE (HBX.out.past HB8.out)
    have HZ8 := hidE (two_below (d := d) (m := m) ((HBB.out.trans (HB1.out.mono HBB.out.size)).trans (HB8.out.mono (by have := HBB.out.size; have := HB1.out.size; omega))))
    clear hD8 hB2 hP2 hS2
    go_wp2_with fail
    ((with_reducible refine (HCT.out).mono ?_); rintro e w10 ⟨rfl, hb10⟩)
    have HB10 := hidE hb10
    clear q0 q1 qz hb10 HCT
    by_cases hn : L.length < 128
    · have dn : decide ((128 : Int) ≤ (L.length : Int)) = false := decide_eq_false (by omega)
      have hB10 := HBX8.out.past HB10.out
      have b0 := hB10.cell 0; have b1 := hB10.cell 1; have b2 := hB10.cell 2; have b3 := hB10.cell 3; have b4 := hB10.cell 4; have b5 := hB10.cell 5; have b6 := hB10.cell 6; have b7 := hB10.cell 7; have bz := hB10.lt
      simp at b0 b1 b2 b3 b4 b5 b6 b7
      have HIN := hidE (insert_f (K := L) w10 (HD8.out.past HB10.out) (HX8.out.past HB10.out) HR.out HS.out HID.out hn)
      clear hn hB10
      go_wp2_with fail
      ((with_reducible refine (HIN.out).mono ?_); rintro e w11 ⟨hb11, rfl, hd11⟩)
      have HZ11 := hidE ((HZ8.out.trans (two_below HB10.out)).trans hb11)
      have HD11 := hidE hd11
      clear hb11 hd11 b0 b1 b2 b3 b4 b5 b6 b7 bz
      go_wp2
      go_ret
      rw [HPN.out]
      exact ⟨HZ11.out, rfl, HD11.out⟩
    · have dn : decide ((128 : Int) ≤ (L.length : Int)) = true := decide_eq_true (by omega)
      have HZ11 := hidE (HZ8.out.trans (two_below (d := d) (m := m) HB10.out))
      have HE := hidE (show finS L (insS L r) = (L, 6) from by unfold finS; rw [insS_len, if_pos (by omega)])
      clear hn
      go_wp2
      go_ret
      rw [HPN.out, HE.out]
      exact ⟨HZ11.out, rfl, fun h => absurd h (by decide : ¬ ((6 : Int) = 0))⟩
theorem add_c {d m : Nat} {a n c} {L : List Rv} {x : Rw} {r : Rv} (w : World) (hD : Dr w d m (.slice a n c) L) (hx : RwF w x r) (hs : r.small) :
    Calls Tryz.prog 137 #[.pointer (some ⟨d, 0, none⟩), rwV x] w (OneIs w d m (.slice a n c) (oneS L 0 r)) := by
  cases hr : r.ok
  · exact add_bad w hD hx hs hr
  · cases hi : atS L r.id with
    | none => exact add_new w hD hx hs hr hi
    | some i => exact add_there w hD hx hs hr hi
end Go.Proofs.YtpoejeambnbcaaaGreat

namespace Go.Proofs.YtpoejeambnbcaaaGreat
open Go.ChangeShapes Go.WideShapes Go.ChangeAt Go.RowKit
attribute [local irreducible] Go.Calls

attribute [local go_sem] run_store_fnZ
/-- A change. -/
abbrev chV (kd : Int) (x : Rw) : Value := .agg #[.int .u8 kd, .int .u32 x.id, .int .u32 x.seq, nmV x.u, .int .i64 x.fr, .int .i64 x.to', x.vT, x.vW, x.vA]

set_option maxRecDepth 100000 in
set_option maxHeartbeats 8000000 in
theorem change_bad {d m : Nat} {a n c} {L : List Rv} {kd : Int} {x : Rw} {r : Rv} (w : World) (hD : Dr w d m (.slice a n c) L) (hx : RwF w x r) (hs : r.small) (hk : 2 < kd) (hk2 : kd ≤ 255) :
    Calls Tryz.prog 61 #[.pointer (some ⟨d, 0, none⟩), chV kd x] w (OneIs w d m (.slice a n c) (oneS L kd r)) := by
  have HPN := hidE (one_bad (L := L) (r := r) hk)
  have dk : decide ((3 : Int) ≤ kd) = true := decide_eq_true (by omega)
  have hxf := hx.fit (by have := hs.2.2.2; unfold maxLen; omega)
  obtain ⟨xi, xq, xu, xf, xt, xT, xW, xA⟩ := x
  obtain ⟨⟨a5, n5, c5, q5⟩, ⟨a6, n6, c6, q6⟩, ⟨a7, n7, c7, q7⟩, _⟩ := hxf
  simp only at q5 q6 q7
  subst q5 q6 q7
  obtain ⟨w0, hw0⟩ : ∃ w0, w0 = w.alloc (Obj.cells #[.int .u8 kd, .int .u32 xi, .int .u32 xq, nmV xu, .int .i64 xf, .int .i64 xt, .slice a5 n5 c5, .slice a6 n6 c6, .slice a7 n7 c7] 52) := ⟨_, rfl⟩
  obtain ⟨pb, hpb⟩ : ∃ pb, pb = w.heap.size := ⟨_, rfl⟩
  have hb0 : Below w.heap.size w w0 := by rw [hw0]; (repeat (first | exact Below.refl _ _ | assumption | refine balloc ?_ _ | refine below_drewN ?_ _ | refine bstep (by assumption) ?_ | refine bstep (Past.prop _) ?_ | refine Below.setCell ?_ (by first | exact Nat.le_refl _ | (simp; done) | (simp; omega)) _))
  have B0 : Blk w0 pb #[.int .u8 kd, .int .u32 xi, .int .u32 xq, nmV xu, .int .i64 xf, .int .i64 xt, .slice a5 n5 c5, .slice a6 n6 c6, .slice a7 n7 c7] 52 := by rw [hw0, hpb]; exact Blk.made _ _ _
  have HB0 := hidE B0; have HBB := hidE hb0
  have HDR := hidE (hD.past hb0); have HX := hidE (hx.past hb0); have HS := hidE hs
  have HCH := hidE (changes_c w0)

  go_enter Tryz.func61, Tryz.ntmps61
  go_upto_region 1 with fail
  rw [← hw0, ← hpb]
  clear hw0 hD hx hb0 hpb B0 hs
  go_wp2_with fail
  ((with_reducible refine (HCH.out).mono ?_); rintro e w1 ⟨rfl, hb1⟩)
  obtain ⟨w2, hw2⟩ : ∃ w2, w2 = w1.alloc (Obj.cells chgV 173) := ⟨_, rfl⟩
  obtain ⟨p5, hp5⟩ : ∃ p5, p5 = w1.heap.size := ⟨_, rfl⟩
  have hb2 : Below w1.heap.size w1 w2 := by rw [hw2]; exact (Below.refl _ _).alloc (Nat.le_refl _) _
  have B2 : Blk w2 p5 chgV 173 := by rw [hw2, hp5]; exact Blk.made _ _ _
  have hb02 : Below w0.heap.size w0 w2 := hb1.trans (hb2.mono hb1.size)
  have HB02 := hidE hb02; have HB2 := hidE B2
  have B := Blk.made w1 #[.nilFunc, .nilFunc, .nilFunc] 173
  have n0 := B.cell 0; have n1 := B.cell 1; have n2 := B.cell 2; have nf := B.free; have nz := B.lt
  simp at n0 n1 n2
  clear hb1 hb2 hb02 B2 B
  go_upto_region 2 with fail
  rw [← hw2, ← hp5]
  clear hw2 hp5 n0 n1 n2 nf nz
  have hBX := HB0.out.past HB02.out
  have b0 := hBX.cell 0; have b1 := hBX.cell 1; have b2 := hBX.cell 2; have b3 := hBX.cell 3; have b4 := hBX.cell 4; have b5 := hBX.cell 5; have b6 := hBX.cell 6; have b7 := hBX.cell 7; have b8 := hBX.cell 8; have bz := hBX.lt
  simp at b0 b1 b2 b3 b4 b5 b6 b7 b8
  have HZ := hidE (two_below (d := d) (m := m) (HBB.out.trans (HB02.out.mono HBB.out.size)))
  clear hBX
  go_wp2
  go_ret
  rw [HPN.out]
  exact ⟨HZ.out, rfl, fun h => absurd h (by decide : ¬ ((2 : Int) = 0))⟩
set_option maxRecDepth 100000 in
set_option maxHeartbeats 8000000 in
theorem change_0 {d m : Nat} {a n c} {L : List Rv} {kd : Int} {x : Rw} {r : Rv} (w : World) (hD : Dr w d m (.slice a n c) L) (hx : RwF w x r) (hs : r.small) (hk : kd = 0) :
    Calls Tryz.prog 61 #[.pointer (some ⟨d, 0, none⟩), chV kd x] w (OneIs w d m (.slice a n c) (oneS L 0 r)) := by
  subst hk
  have hxf := hx.fit (by have := hs.2.2.2; unfold maxLen; omega)
  obtain ⟨xi, xq, xu, xf, xt, xT, xW, xA⟩ := x
  obtain ⟨⟨a5, n5, c5, q5⟩, ⟨a6, n6, c6, q6⟩, ⟨a7, n7, c7, q7⟩, _⟩ := hxf
  simp only at q5 q6 q7
  subst q5 q6 q7
  obtain ⟨w0, hw0⟩ : ∃ w0, w0 = w.alloc (Obj.cells #[.int .u8 0, .int .u32 xi, .int .u32 xq, nmV xu, .int .i64 xf, .int .i64 xt, .slice a5 n5 c5, .slice a6 n6 c6, .slice a7 n7 c7] 52) := ⟨_, rfl⟩
  obtain ⟨pb, hpb⟩ : ∃ pb, pb = w.heap.size := ⟨_, rfl⟩
  have hb0 : Below w.heap.size w w0 := by rw [hw0]; (repeat (first | exact Below.refl _ _ | assumption | refine balloc ?_ _ | refine below_drewN ?_ _ | refine bstep (by assumption) ?_ | refine bstep (Past.prop _) ?_ | refine Below.setCell ?_ (by first | exact Nat.le_refl _ | (simp; done) | (simp; omega)) _))
  have B0 : Blk w0 pb #[.int .u8 0, .int .u32 xi, .int .u32 xq, nmV xu, .int .i64 xf, .int .i64 xt, .slice a5 n5 c5, .slice a6 n6 c6, .slice a7 n7 c7] 52 := by rw [hw0, hpb]; exact Blk.made _ _ _
  have HB0 := hidE B0; have HBB := hidE hb0
  have HDR := hidE (hD.past hb0); have HX := hidE (hx.past hb0); have HS := hidE hs
  have HCH := hidE (changes_c w0)

  go_enter Tryz.func61, Tryz.ntmps61
  go_upto_region 1 with fail
  rw [← hw0, ← hpb]
  clear hw0 hD hx hb0 hpb B0 hs
  go_wp2_with fail
  ((with_reducible refine (HCH.out).mono ?_); rintro e w1 ⟨rfl, hb1⟩)
  obtain ⟨w2, hw2⟩ : ∃ w2, w2 = w1.alloc (Obj.cells chgV 173) := ⟨_, rfl⟩
  obtain ⟨p5, hp5⟩ : ∃ p5, p5 = w1.heap.size := ⟨_, rfl⟩
  have hb2 : Below w1.heap.size w1 w2 := by rw [hw2]; exact (Below.refl _ _).alloc (Nat.le_refl _) _
  have B2 : Blk w2 p5 chgV 173 := by rw [hw2, hp5]; exact Blk.made _ _ _
  have hb02 : Below w0.heap.size w0 w2 := hb1.trans (hb2.mono hb1.size)
  have HB02 := hidE hb02; have HB2 := hidE B2
  have B := Blk.made w1 #[.nilFunc, .nilFunc, .nilFunc] 173
  have n0 := B.cell 0; have n1 := B.cell 1; have n2 := B.cell 2; have nf := B.free; have nz := B.lt
  simp at n0 n1 n2
  clear hb1 hb2 hb02 B2 B
  go_upto_region 2 with fail
  rw [← hw2, ← hp5]
  clear hw2 hp5 n0 n1 n2 nf nz
  have hBX := HB0.out.past HB02.out
  have b0 := hBX.cell 0; have b1 := hBX.cell 1; have b2 := hBX.cell 2; have b3 := hBX.cell 3; have b4 := hBX.cell 4; have b5 := hBX.cell 5; have b6 := hBX.cell 6; have b7 := hBX.cell 7; have b8 := hBX.cell 8; have bz := hBX.lt
  simp at b0 b1 b2 b3 b4 b5 b6 b7 b8
  have c0 := HB2.out.cell 0; have cz := HB2.out.lt
  simp at c0
  have HZ := hidE (two_below (d := d) (m := m) (HBB.out.trans (HB02.out.mono HBB.out.size)))
  clear hBX
  go_upto_region 4 with fail
  refine wp_region_J 7 [] (nthR [detR (.pointer (some ⟨pb, 0, none⟩)), detR (.int .u8 0), detR (.pointer (some ⟨p5, 0, none⟩)), detR (.func (.func 137) #[] #[]), detR (.pointer (some ⟨d, 0, none⟩)), detR (.pointer (some ⟨pb, 1, none⟩)), detR (rwV ⟨xi, xq, xu, xf, xt, .slice a5 n5 c5, .slice a6 n6 c6, .slice a7 n7 c7⟩)]) (fun _ => false) (by kernel_rfl) (by decide) (by kernel_rfl) (stab_nth (by intro r hr; simp only [List.mem_cons, List.not_mem_nil, or_false] at hr; rcases hr with rfl | rfl | rfl | rfl | rfl | rfl | rfl <;> first | exact stab_det _)) ?_ ?_ ?_
  · intro i o hi ho
    match i, hi with
    | 0, _ =>
      obtain rfl := Option.some.inj ho
      intro u x hd
      have hc := Past.cell x
      simp [go_sem, gives, frm, Act.put, nthR, detR, Region.wanted, Below.refl]
    | 1, _ =>
      obtain rfl := Option.some.inj ho
      intro u x hd
      have hc := Past.cell x
      have d0 := hd 0 (by decide) (by kernel_rfl)
      simp only [nthR, detR, List.getD_cons_zero] at d0
      simp [go_sem, gives, frm, Act.put, nthR, detR, Region.wanted, Below.refl, hc, d0, b0, bz]
    | 2, _ =>
      obtain rfl := Option.some.inj ho
      intro u x hd
      have hc := Past.cell x
      have d1 := hd 1 (by decide) (by kernel_rfl)
      simp only [nthR, detR, List.getD_cons_zero, List.getD_cons_succ] at d1
      simp [go_sem, gives, frm, Act.put, nthR, detR, Region.wanted, Below.refl, d1]
    | 3, _ =>
      obtain rfl := Option.some.inj ho
      intro u x hd
      have hc := Past.cell x
      have d2 := hd 2 (by decide) (by kernel_rfl)
      simp only [nthR, detR, List.getD_cons_zero, List.getD_cons_succ] at d2
      simp [go_sem, gives, frm, Act.put, nthR, detR, Region.wanted, Below.refl, hc, d2, c0, cz]
    | 4, _ =>
      obtain rfl := Option.some.inj ho
      intro u x hd
      have hc := Past.cell x
      simp [go_sem, gives, frm, Act.put, nthR, detR, Region.wanted, Below.refl]
    | 5, _ =>
      obtain rfl := Option.some.inj ho
      intro u x hd
      have hc := Past.cell x
      simp [go_sem, gives, frm, Act.put, nthR, detR, Region.wanted, Below.refl]
    | 6, _ =>
      obtain rfl := Option.some.inj ho
      intro u x hd
      have hc := Past.cell x
      have d5 := hd 5 (by decide) (by kernel_rfl)
      simp only [nthR, detR, List.getD_cons_zero, List.getD_cons_succ] at d5
      simp [go_sem, gives, frm, Act.put, nthR, detR, Region.wanted, Below.refl, hc, d5, b1, b2, b3, b4, b5, b6, b7, b8, bz]
    | i + 7, h => exact absurd h (by omega)
  · intro i o hx ho
    simp at hx
  · intro u x9 hu hne
    have e3 : u 3 = .func (.func 137) #[] #[] := hu 3 (by decide)
    have e4 : u 4 = .pointer (some ⟨d, 0, none⟩) := hu 4 (by decide)
    have e6 : u 6 = rwV ⟨xi, xq, xu, xf, xt, .slice a5 n5 c5, .slice a6 n6 c6, .slice a7 n7 c7⟩ := hu 6 (by decide)
    simp only [frm, List.take, Act.put, e3, e4, e6]
    have hb9 := x9.2
    have HON := hidE (add_c x9.1 ((HDR.out.past HB02.out).past hb9) ((HX.out.past HB02.out).past hb9) HS.out)
    have HZ9 := hidE (HZ.out.trans (two_below (d := d) (m := m) hb9))
    clear hu hne e3 e4 e6 hb9 b0 b1 b2 b3 b4 b5 b6 b7 b8 bz c0 cz
    generalize x9.1 = w9 at *
    go_wp2_with fail
    ((with_reducible refine (HON.out).mono ?_); rintro e w10 ⟨hb10, rfl, hd10⟩)
    have HZ10 := hidE (HZ9.out.trans hb10)
    have HD10 := hidE hd10
    clear hb10 hd10
    go_wp2
    go_ret
    exact ⟨HZ10.out, rfl, HD10.out⟩
set_option maxRecDepth 100000 in
set_option maxHeartbeats 8000000 in
theorem change_1 {d m : Nat} {a n c} {L : List Rv} {kd : Int} {x : Rw} {r : Rv} (w : World) (hD : Dr w d m (.slice a n c) L) (hx : RwF w x r) (hs : r.small) (hk : kd = 1) :
    Calls Tryz.prog 61 #[.pointer (some ⟨d, 0, none⟩), chV kd x] w (OneIs w d m (.slice a n c) (oneS L 1 r)) := by
  subst hk
  have hxf := hx.fit (by have := hs.2.2.2; unfold maxLen; omega)
  obtain ⟨xi, xq, xu, xf, xt, xT, xW, xA⟩ := x
  obtain ⟨⟨a5, n5, c5, q5⟩, ⟨a6, n6, c6, q6⟩, ⟨a7, n7, c7, q7⟩, _⟩ := hxf
  simp only at q5 q6 q7
  subst q5 q6 q7
  obtain ⟨w0, hw0⟩ : ∃ w0, w0 = w.alloc (Obj.cells #[.int .u8 1, .int .u32 xi, .int .u32 xq, nmV xu, .int .i64 xf, .int .i64 xt, .slice a5 n5 c5, .slice a6 n6 c6, .slice a7 n7 c7] 52) := ⟨_, rfl⟩
  obtain ⟨pb, hpb⟩ : ∃ pb, pb = w.heap.size := ⟨_, rfl⟩
  have hb0 : Below w.heap.size w w0 := by rw [hw0]; (repeat (first | exact Below.refl _ _ | assumption | refine balloc ?_ _ | refine below_drewN ?_ _ | refine bstep (by assumption) ?_ | refine bstep (Past.prop _) ?_ | refine Below.setCell ?_ (by first | exact Nat.le_refl _ | (simp; done) | (simp; omega)) _))
  have B0 : Blk w0 pb #[.int .u8 1, .int .u32 xi, .int .u32 xq, nmV xu, .int .i64 xf, .int .i64 xt, .slice a5 n5 c5, .slice a6 n6 c6, .slice a7 n7 c7] 52 := by rw [hw0, hpb]; exact Blk.made _ _ _
  have HB0 := hidE B0; have HBB := hidE hb0
  have HDR := hidE (hD.past hb0); have HX := hidE (hx.past hb0); have HS := hidE hs
  have HCH := hidE (changes_c w0)

  go_enter Tryz.func61, Tryz.ntmps61
  go_upto_region 1 with fail
  rw [← hw0, ← hpb]
  clear hw0 hD hx hb0 hpb B0 hs
  go_wp2_with fail
  ((with_reducible refine (HCH.out).mono ?_); rintro e w1 ⟨rfl, hb1⟩)
  obtain ⟨w2, hw2⟩ : ∃ w2, w2 = w1.alloc (Obj.cells chgV 173) := ⟨_, rfl⟩
  obtain ⟨p5, hp5⟩ : ∃ p5, p5 = w1.heap.size := ⟨_, rfl⟩
  have hb2 : Below w1.heap.size w1 w2 := by rw [hw2]; exact (Below.refl _ _).alloc (Nat.le_refl _) _
  have B2 : Blk w2 p5 chgV 173 := by rw [hw2, hp5]; exact Blk.made _ _ _
  have hb02 : Below w0.heap.size w0 w2 := hb1.trans (hb2.mono hb1.size)
  have HB02 := hidE hb02; have HB2 := hidE B2
  have B := Blk.made w1 #[.nilFunc, .nilFunc, .nilFunc] 173
  have n0 := B.cell 0; have n1 := B.cell 1; have n2 := B.cell 2; have nf := B.free; have nz := B.lt
  simp at n0 n1 n2
  clear hb1 hb2 hb02 B2 B
  go_upto_region 2 with fail
  rw [← hw2, ← hp5]
  clear hw2 hp5 n0 n1 n2 nf nz
  have hBX := HB0.out.past HB02.out
  have b0 := hBX.cell 0; have b1 := hBX.cell 1; have b2 := hBX.cell 2; have b3 := hBX.cell 3; have b4 := hBX.cell 4; have b5 := hBX.cell 5; have b6 := hBX.cell 6; have b7 := hBX.cell 7; have b8 := hBX.cell 8; have bz := hBX.lt
  simp at b0 b1 b2 b3 b4 b5 b6 b7 b8
  have c0 := HB2.out.cell 1; have cz := HB2.out.lt
  simp at c0
  have HZ := hidE (two_below (d := d) (m := m) (HBB.out.trans (HB02.out.mono HBB.out.size)))
  clear hBX
  go_upto_region 4 with fail
  refine wp_region_J 7 [] (nthR [detR (.pointer (some ⟨pb, 0, none⟩)), detR (.int .u8 1), detR (.pointer (some ⟨p5, 1, none⟩)), detR (.func (.func 138) #[] #[]), detR (.pointer (some ⟨d, 0, none⟩)), detR (.pointer (some ⟨pb, 1, none⟩)), detR (rwV ⟨xi, xq, xu, xf, xt, .slice a5 n5 c5, .slice a6 n6 c6, .slice a7 n7 c7⟩)]) (fun _ => false) (by kernel_rfl) (by decide) (by kernel_rfl) (stab_nth (by intro r hr; simp only [List.mem_cons, List.not_mem_nil, or_false] at hr; rcases hr with rfl | rfl | rfl | rfl | rfl | rfl | rfl <;> first | exact stab_det _)) ?_ ?_ ?_
  · intro i o hi ho
    match i, hi with
    | 0, _ =>
      obtain rfl := Option.some.inj ho
      intro u x hd
      have hc := Past.cell x
      simp [go_sem, gives, frm, Act.put, nthR, detR, Region.wanted, Below.refl]
    | 1, _ =>
      obtain rfl := Option.some.inj ho
      intro u x hd
      have hc := Past.cell x
      have d0 := hd 0 (by decide) (by kernel_rfl)
      simp only [nthR, detR, List.getD_cons_zero] at d0
      simp [go_sem, gives, frm, Act.put, nthR, detR, Region.wanted, Below.refl, hc, d0, b0, bz]
    | 2, _ =>
      obtain rfl := Option.some.inj ho
      intro u x hd
      have hc := Past.cell x
      have d1 := hd 1 (by decide) (by kernel_rfl)
      simp only [nthR, detR, List.getD_cons_zero, List.getD_cons_succ] at d1
      simp [go_sem, gives, frm, Act.put, nthR, detR, Region.wanted, Below.refl, d1]
    | 3, _ =>
      obtain rfl := Option.some.inj ho
      intro u x hd
      have hc := Past.cell x
      have d2 := hd 2 (by decide) (by kernel_rfl)
      simp only [nthR, detR, List.getD_cons_zero, List.getD_cons_succ] at d2
      simp [go_sem, gives, frm, Act.put, nthR, detR, Region.wanted, Below.refl, hc, d2, c0, cz]
    | 4, _ =>
      obtain rfl := Option.some.inj ho
      intro u x hd
      have hc := Past.cell x
      simp [go_sem, gives, frm, Act.put, nthR, detR, Region.wanted, Below.refl]
    | 5, _ =>
      obtain rfl := Option.some.inj ho
      intro u x hd
      have hc := Past.cell x
      simp [go_sem, gives, frm, Act.put, nthR, detR, Region.wanted, Below.refl]
    | 6, _ =>
      obtain rfl := Option.some.inj ho
      intro u x hd
      have hc := Past.cell x
      have d5 := hd 5 (by decide) (by kernel_rfl)
      simp only [nthR, detR, List.getD_cons_zero, List.getD_cons_succ] at d5
      simp [go_sem, gives, frm, Act.put, nthR, detR, Region.wanted, Below.refl, hc, d5, b1, b2, b3, b4, b5, b6, b7, b8, bz]
    | i + 7, h => exact absurd h (by omega)
  · intro i o hx ho
    simp at hx
  · intro u x9 hu hne
    have e3 : u 3 = .func (.func 138) #[] #[] := hu 3 (by decide)
    have e4 : u 4 = .pointer (some ⟨d, 0, none⟩) := hu 4 (by decide)
    have e6 : u 6 = rwV ⟨xi, xq, xu, xf, xt, .slice a5 n5 c5, .slice a6 n6 c6, .slice a7 n7 c7⟩ := hu 6 (by decide)
    simp only [frm, List.take, Act.put, e3, e4, e6]
    have hb9 := x9.2
    have HON := hidE (put_c x9.1 ((HDR.out.past HB02.out).past hb9) ((HX.out.past HB02.out).past hb9) HS.out)
    have HZ9 := hidE (HZ.out.trans (two_below (d := d) (m := m) hb9))
    clear hu hne e3 e4 e6 hb9 b0 b1 b2 b3 b4 b5 b6 b7 b8 bz c0 cz
    generalize x9.1 = w9 at *
    go_wp2_with fail
    ((with_reducible refine (HON.out).mono ?_); rintro e w10 ⟨hb10, rfl, hd10⟩)
    have HZ10 := hidE (HZ9.out.trans hb10)
    have HD10 := hidE hd10
    clear hb10 hd10
    go_wp2
    go_ret
    exact ⟨HZ10.out, rfl, HD10.out⟩
set_option maxRecDepth 100000 in
set_option maxHeartbeats 8000000 in
theorem change_2 {d m : Nat} {a n c} {L : List Rv} {kd : Int} {x : Rw} {r : Rv} (w : World) (hD : Dr w d m (.slice a n c) L) (hx : RwF w x r) (hs : r.small) (hk : kd = 2) :
    Calls Tryz.prog 61 #[.pointer (some ⟨d, 0, none⟩), chV kd x] w (OneIs w d m (.slice a n c) (oneS L 2 r)) := by
  subst hk
  have hxf := hx.fit (by have := hs.2.2.2; unfold maxLen; omega)
  obtain ⟨xi, xq, xu, xf, xt, xT, xW, xA⟩ := x
  obtain ⟨⟨a5, n5, c5, q5⟩, ⟨a6, n6, c6, q6⟩, ⟨a7, n7, c7, q7⟩, _⟩ := hxf
  simp only at q5 q6 q7
  subst q5 q6 q7
  obtain ⟨w0, hw0⟩ : ∃ w0, w0 = w.alloc (Obj.cells #[.int .u8 2, .int .u32 xi, .int .u32 xq, nmV xu, .int .i64 xf, .int .i64 xt, .slice a5 n5 c5, .slice a6 n6 c6, .slice a7 n7 c7] 52) := ⟨_, rfl⟩
  obtain ⟨pb, hpb⟩ : ∃ pb, pb = w.heap.size := ⟨_, rfl⟩
  have hb0 : Below w.heap.size w w0 := by rw [hw0]; (repeat (first | exact Below.refl _ _ | assumption | refine balloc ?_ _ | refine below_drewN ?_ _ | refine bstep (by assumption) ?_ | refine bstep (Past.prop _) ?_ | refine Below.setCell ?_ (by first | exact Nat.le_refl _ | (simp; done) | (simp; omega)) _))
  have B0 : Blk w0 pb #[.int .u8 2, .int .u32 xi, .int .u32 xq, nmV xu, .int .i64 xf, .int .i64 xt, .slice a5 n5 c5, .slice a6 n6 c6, .slice a7 n7 c7] 52 := by rw [hw0, hpb]; exact Blk.made _ _ _
  have HB0 := hidE B0; have HBB := hidE hb0
  have HDR := hidE (hD.past hb0); have HX := hidE (hx.past hb0); have HS := hidE hs
  have HCH := hidE (changes_c w0)

  go_enter Tryz.func61, Tryz.ntmps61
  go_upto_region 1 with fail
  rw [← hw0, ← hpb]
  clear hw0 hD hx hb0 hpb B0 hs
  go_wp2_with fail
  ((with_reducible refine (HCH.out).mono ?_); rintro e w1 ⟨rfl, hb1⟩)
  obtain ⟨w2, hw2⟩ : ∃ w2, w2 = w1.alloc (Obj.cells chgV 173) := ⟨_, rfl⟩
  obtain ⟨p5, hp5⟩ : ∃ p5, p5 = w1.heap.size := ⟨_, rfl⟩
  have hb2 : Below w1.heap.size w1 w2 := by rw [hw2]; exact (Below.refl _ _).alloc (Nat.le_refl _) _
  have B2 : Blk w2 p5 chgV 173 := by rw [hw2, hp5]; exact Blk.made _ _ _
  have hb02 : Below w0.heap.size w0 w2 := hb1.trans (hb2.mono hb1.size)
  have HB02 := hidE hb02; have HB2 := hidE B2
  have B := Blk.made w1 #[.nilFunc, .nilFunc, .nilFunc] 173
  have n0 := B.cell 0; have n1 := B.cell 1; have n2 := B.cell 2; have nf := B.free; have nz := B.lt
  simp at n0 n1 n2
  clear hb1 hb2 hb02 B2 B
  go_upto_region 2 with fail
  rw [← hw2, ← hp5]
  clear hw2 hp5 n0 n1 n2 nf nz
  have hBX := HB0.out.past HB02.out
  have b0 := hBX.cell 0; have b1 := hBX.cell 1; have b2 := hBX.cell 2; have b3 := hBX.cell 3; have b4 := hBX.cell 4; have b5 := hBX.cell 5; have b6 := hBX.cell 6; have b7 := hBX.cell 7; have b8 := hBX.cell 8; have bz := hBX.lt
  simp at b0 b1 b2 b3 b4 b5 b6 b7 b8
  have c0 := HB2.out.cell 2; have cz := HB2.out.lt
  simp at c0
  have HZ := hidE (two_below (d := d) (m := m) (HBB.out.trans (HB02.out.mono HBB.out.size)))
  clear hBX
  go_upto_region 4 with fail
  refine wp_region_J 7 [] (nthR [detR (.pointer (some ⟨pb, 0, none⟩)), detR (.int .u8 2), detR (.pointer (some ⟨p5, 2, none⟩)), detR (.func (.func 139) #[] #[]), detR (.pointer (some ⟨d, 0, none⟩)), detR (.pointer (some ⟨pb, 1, none⟩)), detR (rwV ⟨xi, xq, xu, xf, xt, .slice a5 n5 c5, .slice a6 n6 c6, .slice a7 n7 c7⟩)]) (fun _ => false) (by kernel_rfl) (by decide) (by kernel_rfl) (stab_nth (by intro r hr; simp only [List.mem_cons, List.not_mem_nil, or_false] at hr; rcases hr with rfl | rfl | rfl | rfl | rfl | rfl | rfl <;> first | exact stab_det _)) ?_ ?_ ?_
  · intro i o hi ho
    match i, hi with
    | 0, _ =>
      obtain rfl := Option.some.inj ho
      intro u x hd
      have hc := Past.cell x
      simp [go_sem, gives, frm, Act.put, nthR, detR, Region.wanted, Below.refl]
    | 1, _ =>
      obtain rfl := Option.some.inj ho
      intro u x hd
      have hc := Past.cell x
      have d0 := hd 0 (by decide) (by kernel_rfl)
      simp only [nthR, detR, List.getD_cons_zero] at d0
      simp [go_sem, gives, frm, Act.put, nthR, detR, Region.wanted, Below.refl, hc, d0, b0, bz]
    | 2, _ =>
      obtain rfl := Option.some.inj ho
      intro u x hd
      have hc := Past.cell x
      have d1 := hd 1 (by decide) (by kernel_rfl)
      simp only [nthR, detR, List.getD_cons_zero, List.getD_cons_succ] at d1
      simp [go_sem, gives, frm, Act.put, nthR, detR, Region.wanted, Below.refl, d1]
    | 3, _ =>
      obtain rfl := Option.some.inj ho
      intro u x hd
      have hc := Past.cell x
      have d2 := hd 2 (by decide) (by kernel_rfl)
      simp only [nthR, detR, List.getD_cons_zero, List.getD_cons_succ] at d2
      simp [go_sem, gives, frm, Act.put, nthR, detR, Region.wanted, Below.refl, hc, d2, c0, cz]
    | 4, _ =>
      obtain rfl := Option.some.inj ho
      intro u x hd
      have hc := Past.cell x
      simp [go_sem, gives, frm, Act.put, nthR, detR, Region.wanted, Below.refl]
    | 5, _ =>
      obtain rfl := Option.some.inj ho
      intro u x hd
      have hc := Past.cell x
      simp [go_sem, gives, frm, Act.put, nthR, detR, Region.wanted, Below.refl]
    | 6, _ =>
      obtain rfl := Option.some.inj ho
      intro u x hd
      have hc := Past.cell x
      have d5 := hd 5 (by decide) (by kernel_rfl)
      simp only [nthR, detR, List.getD_cons_zero, List.getD_cons_succ] at d5
      simp [go_sem, gives, frm, Act.put, nthR, detR, Region.wanted, Below.refl, hc, d5, b1, b2, b3, b4, b5, b6, b7, b8, bz]
    | i + 7, h => exact absurd h (by omega)
  · intro i o hx ho
    simp at hx
  · intro u x9 hu hne
    have e3 : u 3 = .func (.func 139) #[] #[] := hu 3 (by decide)
    have e4 : u 4 = .pointer (some ⟨d, 0, none⟩) := hu 4 (by decide)
    have e6 : u 6 = rwV ⟨xi, xq, xu, xf, xt, .slice a5 n5 c5, .slice a6 n6 c6, .slice a7 n7 c7⟩ := hu 6 (by decide)
    simp only [frm, List.take, Act.put, e3, e4, e6]
    have hb9 := x9.2
    have HON := hidE (drop_f x9.1 ((HDR.out.past HB02.out).past hb9) ((HX.out.past HB02.out).past hb9) HS.out)
    have HZ9 := hidE (HZ.out.trans (two_below (d := d) (m := m) hb9))
    clear hu hne e3 e4 e6 hb9 b0 b1 b2 b3 b4 b5 b6 b7 b8 bz c0 cz
    generalize x9.1 = w9 at *
    go_wp2_with fail
    ((with_reducible refine (HON.out).mono ?_); rintro e w10 ⟨hb10, rfl, hd10⟩)
    have HZ10 := hidE (HZ9.out.trans hb10)
    have HD10 := hidE hd10
    clear hb10 hd10
    go_wp2
    go_ret
    exact ⟨HZ10.out, rfl, HD10.out⟩
theorem change_c {d m : Nat} {a n c} {L : List Rv} {kd : Int} {x : Rw} {r : Rv} (w : World) (hD : Dr w d m (.slice a n c) L) (hx : RwF w x r) (hs : r.small) (hk : 0 ≤ kd) (hk2 : kd ≤ 255) :
    Calls Tryz.prog 61 #[.pointer (some ⟨d, 0, none⟩), chV kd x] w (OneIs w d m (.slice a n c) (oneS L kd r)) := by
  rcases (show kd = 0 ∨ kd = 1 ∨ kd = 2 ∨ 2 < kd from by omega) with rfl | rfl | rfl | h
  · exact change_0 w hD hx hs rfl
  · exact change_1 w hD hx hs rfl
  · exact change_2 w hD hx hs rfl
  · exact change_bad w hD hx hs h hk2
end Go.Proofs.YtpoejeambnbcaaaGreat

namespace Go.Proofs.YtpoejeambnbcaaaGreat
open Go.ChangeShapes Go.WideShapes Go.ChangeAt Go.RowKit
attribute [local irreducible] Go.Calls

abbrev Cw := Int × Rw
def cw0 : Cw := (0, rw0)
abbrev cwCells (q : Cw) : List Value := .int .u8 q.1 :: q.2.cells
/-- A slice that reads as a row of changes. -/
def SliCh (w : World) (v : Value) (l : List Cw) : Prop := ∃ (a : Option Addr) (cap : Nat), v = .slice a l.length cap ∧ l.length ≤ cap ∧ cap ≤ 9223372036854775807 ∧
  (0 < l.length → ∃ b off, a = some ⟨b, off, none⟩ ∧ b < w.heap.size ∧ ∀ i j, i < l.length → j < 9 → w.cell? ⟨b, off + i * 9 + j, none⟩ = (cwCells (l.getD i cw0))[j]?)
/-- The changes that it says. -/
structure ChsF (w : World) (l : List Cw) (cs : List (Int × Rv)) : Prop where
  len : cs.length = l.length
  kd : ∀ i, i < l.length → (l.getD i cw0).1 = (cs.getD i (0, rv0)).1 ∧ 0 ≤ (l.getD i cw0).1 ∧ (l.getD i cw0).1 ≤ 255
  rv : ∀ i, i < l.length → RwF w (l.getD i cw0).2 (cs.getD i (0, rv0)).2
  small : ∀ i, i < l.length → (cs.getD i (0, rv0)).2.small
/-- What a plan has. -/
structure Pl (w : World) (p : Nat) (L : List Rv) (C : List Sg) : Prop where
  has : ∃ m vc U rows rvs, Blk w p #[vc, .map (some m)] 80 ∧ SliF3 w vc C ∧ Body w m U rows rvs L
theorem Pl.past {w w' : World} {p : Nat} {L : List Rv} {C : List Sg} (h : Pl w p L C) (hb : Below w.heap.size w w') : Pl w' p L C := by
  obtain ⟨m, vc, U, rows, rvs, h1, h2, h3⟩ := h.has
  exact ⟨m, vc, U, rows, rvs, h1.past hb, h2.past hb, h3.past hb⟩
theorem Pl.good {w : World} {p : Nat} {L : List Rv} {C : List Sg} (h : Pl w p L C) : GoodL L := by
  obtain ⟨m, vc, U, rows, rvs, h1, h2, h3⟩ := h.has
  exact h3.good
theorem Pl.noInt {w : World} {p : Nat} {L : List Rv} {C : List Sg} (h : Pl w p L C) : NoInt w p := by
  obtain ⟨m, vc, U, rows, rvs, h1, ⟨⟨a, c, rfl, _⟩, _⟩, h3⟩ := h.has
  exact noInt_two h1
theorem runS_ok_take {cs : List (Int × Rv)} {L : List Rv} {k : Nat} (hk : k < cs.length) (h : (runS L (cs.take k)).2 = 0) : runS L (cs.take (k + 1)) = if (oneS (runS L (cs.take k)).1 (cs.getD k (0, rv0)).1 (cs.getD k (0, rv0)).2).2 = 0 then oneS (runS L (cs.take k)).1 (cs.getD k (0, rv0)).1 (cs.getD k (0, rv0)).2 else ((runS L (cs.take k)).1, (oneS (runS L (cs.take k)).1 (cs.getD k (0, rv0)).1 (cs.getD k (0, rv0)).2).2) := by
  rw [List.take_succ_eq_append_getElem hk, runS_snoc _ _ _ h, List.getD_eq_getElem?_getD, List.getElem?_eq_getElem hk]; rfl
theorem doP_bad {cs : List (Int × Rv)} {L : List Rv} {k : Nat} {e : Int} (_hk : k ≤ cs.length) (h : (runS L (cs.take k)).2 = e) (he : e ≠ 0) : doP L cs = (L, e) := by
  have h2 : (runS L cs).2 = e := by
    have := runS_bad (cs.take k) (cs.drop k) L (by rw [h]; exact he)
    rw [List.take_append_drop] at this
    rw [this, h]
  unfold doP
  rw [if_neg (by rw [h2]; exact he), h2]
/-- A list of all rows. -/
def lstR (rows : List UInt8 → List Rw) (U : List Ent) : Value → World → Prop := fun v w => ∃ l, SliRw w v l ∧ l.Perm (allRw rows U)
theorem stab_lst (rows : List UInt8 → List Rw) (U : List Ent) : Stab (lstR rows U) := fun _ _ _ ⟨l, h, hp⟩ hb => ⟨l, h.past hb, hp⟩
def ldP (M : List (List Sg)) : Value → World → Prop := fun v w => ldR M v w
def drvR (vc : Value) (B : Nat) (U : List Ent) (M : List (List Sg)) : Value → World → Prop := fun v w => ∃ m vs, v = .agg #[vc, .map (some m), vs] ∧ B ≤ m ∧ MapU w m U ∧ ldR M vs w
theorem stab_drv (vc : Value) (B : Nat) (U : List Ent) (M : List (List Sg)) : Stab (drvR vc B U M) := fun _ _ _ ⟨m, vs, e, h1, h2, h3⟩ hb => ⟨m, vs, e, h1, h2.past hb, stab_ld _ _ _ _ h3 hb⟩
theorem Body.load {w : World} {m : Nat} {U : List Ent} {rows : List UInt8 → List Rw} {rvs : List UInt8 → List Rv} {L : List Rv} (h : Body w m U rows rvs L) {v : Value} {l : List Rw} (hv : SliRw w v l) (hp : l.Perm (allRw rows U)) : Calls Tryz.prog 59 #[v] w (LoadIs w (fnsS L)) := by
  obtain ⟨R, hRp, hRF⟩ := rwsF_perm hp.symm _ (rwsF_all h.vals U)
  have hRL : R.Perm L := hRp.trans h.perm
  have hok : ∀ r ∈ R, r.ok = true := fun r hr => h.good.ok r (hRL.mem_iff.1 hr)
  have hl : l.length ≤ 128 := by rw [hp.length_eq, h.all_len]; exact h.good.few
  have hlen := lenR_le hok
  have hRl := hRF.1
  refine (load_c l.length l (fnsS R) v w (Nat.le_refl _) hv hRF.fns (fns_pos hok) (inR_perm (hRL.symm.map (·.A)) h.good.inR) (by omega) (by omega)).mono ?_
  rintro e w' ⟨v', rfl, h1, h2⟩
  exact ⟨v', rfl, ldR_perm (L := fnsS R) (M := fnsS L) (List.Perm.map Rv.A hRL) h1, h2⟩

/-- What Do says. -/
def DoIs (w : World) (p : Nat) (L : List Rv) (C : List Sg) (cs : List (Int × Rv)) (e : Ending) (w' : World) : Prop := e = .returned (.int .i64 (doP L cs).2) ∧ w.grownBy w' (some p) ∧ Pl w' p (doP L cs).1 C ∧ ((doP L cs).2 ≠ 0 → Below w.heap.size w w')
set_option maxRecDepth 100000 in
set_option maxHeartbeats 16000000 in
theorem do_c {p : Nat} {L : List Rv} {C : List Sg} {v : Value} {l : List Cw} {cs : List (Int × Rv)} (w : World) (hP : Pl w p L C) (hv : SliCh w v l) (hc : ChsF w l cs) (hl : l.length ≤ 1000000) :
    Calls Tryz.prog 18 #[.pointer (some ⟨p, 0, none⟩), v] w (DoIs w p L C cs) := by
  obtain ⟨m, vc, U, rows, rvs, hB, hC, hBd⟩ := hP.has
  obtain ⟨ac, cc, evc, _⟩ := id hC.1
  subst evc
  obtain ⟨av, cv, rfl, hv1, hv2, hv3⟩ := hv
  have HMD := hidE (made_c w hB)
  have HB := hidE hB; have HC := hidE hC; have HBD := hidE hBd; have HV3 := hidE hv3; have HCS := hidE hc
  have HPL := hidE hP
  clear hP hB hC hBd hv3 hc
  go_enter Tryz.func18, Tryz.ntmps18
  go_wp2_with fail
  ((with_reducible refine (HMD.out).mono ?_); rintro e w1 ⟨rfl, hb1⟩)
  have hB1 := HB.out.past hb1
  have q0 := hB1.cell 0; have q1 := hB1.cell 1; have qz := hB1.lt
  simp at q0 q1
  have HBD1 := hidE (HBD.out.past hb1); have HB1 := hidE hb1
  clear hB1 hb1 HMD
  go_upto_region 3 with fail
  have HLL := hidE (show (allRw rows U).length ≤ 100000000 from by rw [HBD1.out.all_len]; have := HBD1.out.good.few; omega)
  refine wp_region_J 13 [] (nthR [detR (.pointer (some ⟨p, 0, none⟩)), detR (.pointer (some ⟨p, 0, none⟩)), detR (.pointer (some ⟨p, 0, none⟩)), detR (ctV (.slice ac C.length cc) m), ctR (.slice ac C.length cc) w1.heap.size U, detR (.pointer (some ⟨p, 0, none⟩)), detR (.pointer (some ⟨p, 0, none⟩)), detR (.pointer (some ⟨p, 0, none⟩)), detR (ctV (.slice ac C.length cc) m), lstR rows U, ldP (fnsS L), drvR (.slice ac C.length cc) w1.heap.size U (fnsS L), newR w1.heap.size #[.slice none 0 0, .map none, .slice none 0 0] 122]) (fun _ => false) (by kernel_rfl) (by decide) (by kernel_rfl) (stab_nth (by intro r hr; simp only [List.mem_cons, List.not_mem_nil, or_false] at hr; rcases hr with rfl | rfl | rfl | rfl | rfl | rfl | rfl | rfl | rfl | rfl | rfl | rfl | rfl <;> first | exact stab_det _ | exact stab_ct _ _ _ | exact stab_lst _ _ | exact stab_ld _ | exact stab_drv _ _ _ _ | exact stab_new _ _ _)) ?_ ?_ ?_
  · intro i o hi ho
    match i, hi with
    | 0, _ =>
      obtain rfl := Option.some.inj ho
      intro u x hd
      have hc := Past.cell x
      simp [go_sem, gives, frm, Act.put, nthR, detR, Region.wanted, Below.refl]
    | 1, _ =>
      obtain rfl := Option.some.inj ho
      intro u x hd
      have hc := Past.cell x
      have d0 := hd 0 (by decide) (by kernel_rfl)
      simp only [nthR, detR, List.getD_cons_zero] at d0
      simp [go_sem, gives, frm, Act.put, nthR, detR, Region.wanted, Below.refl, d0]
    | 2, _ =>
      obtain rfl := Option.some.inj ho
      intro u x hd
      have hc := Past.cell x
      have d1 := hd 1 (by decide) (by kernel_rfl)
      simp only [nthR, detR, List.getD_cons_zero, List.getD_cons_succ] at d1
      simp [go_sem, gives, frm, Act.put, nthR, detR, Region.wanted, Below.refl, d1]
    | 3, _ =>
      obtain rfl := Option.some.inj ho
      intro u x hd
      have hc := Past.cell x
      have d2 := hd 2 (by decide) (by kernel_rfl)
      simp only [nthR, detR, List.getD_cons_zero, List.getD_cons_succ] at d2
      simp [go_sem, gives, frm, Act.put, nthR, detR, Region.wanted, Below.refl, hc, d2, q0, q1, qz]
    | 4, _ =>
      obtain rfl := Option.some.inj ho
      intro u x hd
      have hc := Past.cell x
      have d3 := hd 3 (by decide) (by kernel_rfl)
      simp only [nthR, detR, List.getD_cons_zero, List.getD_cons_succ] at d3
      simp [go_sem, gives, frm, Act.put, nthR, Region.wanted, d3]
      (with_reducible refine (shared_c ac C.length cc _ (HBD1.out.past (Past.prop x)).map).mono ?_); rintro e w3 ⟨m2, rfl, h1, h2, hb3⟩; exact ⟨_, rfl, hb3, ⟨m2, rfl, Nat.le_trans (Past.prop x).size h2, h1⟩⟩
    | 5, _ =>
      obtain rfl := Option.some.inj ho
      intro u x hd
      have hc := Past.cell x
      simp [go_sem, gives, frm, Act.put, nthR, detR, Region.wanted, Below.refl]
    | 6, _ =>
      obtain rfl := Option.some.inj ho
      intro u x hd
      have hc := Past.cell x
      have d5 := hd 5 (by decide) (by kernel_rfl)
      simp only [nthR, detR, List.getD_cons_zero, List.getD_cons_succ] at d5
      simp [go_sem, gives, frm, Act.put, nthR, detR, Region.wanted, Below.refl, d5]
    | 7, _ =>
      obtain rfl := Option.some.inj ho
      intro u x hd
      have hc := Past.cell x
      have d6 := hd 6 (by decide) (by kernel_rfl)
      simp only [nthR, detR, List.getD_cons_zero, List.getD_cons_succ] at d6
      simp [go_sem, gives, frm, Act.put, nthR, detR, Region.wanted, Below.refl, d6]
    | 8, _ =>
      obtain rfl := Option.some.inj ho
      intro u x hd
      have hc := Past.cell x
      have d7 := hd 7 (by decide) (by kernel_rfl)
      simp only [nthR, detR, List.getD_cons_zero, List.getD_cons_succ] at d7
      simp [go_sem, gives, frm, Act.put, nthR, detR, Region.wanted, Below.refl, hc, d7, q0, q1, qz]
    | 9, _ =>
      obtain rfl := Option.some.inj ho
      intro u x hd
      have hc := Past.cell x
      have d8 := hd 8 (by decide) (by kernel_rfl)
      simp only [nthR, detR, List.getD_cons_zero, List.getD_cons_succ] at d8
      simp [go_sem, gives, frm, Act.put, nthR, Region.wanted, d8]
      (with_reducible refine (list_c sortC (.slice ac C.length cc) _ (HBD1.out.past (Past.prop x)).map (HBD1.out.past (Past.prop x)).ok HLL.out).mono ?_); rintro e w3 ⟨v, l2, rfl, hb3, hp, _, ho⟩; exact ⟨_, rfl, hb3, ⟨l2, sliRw_own ho (fun y hy => HBD1.out.ok.fits y (hp.mem_iff.1 hy)), hp⟩⟩
    | 10, _ =>
      obtain rfl := Option.some.inj ho
      intro u x hd
      have hc := Past.cell x
      have h9 : ∃ l2, SliRw x.1 (u 9) l2 ∧ l2.Perm (allRw rows U) := hd 9 (by decide) (by kernel_rfl)
      have hs9 := h9.choose_spec.1; have hp9 := h9.choose_spec.2; generalize h9.choose = l2 at *
      obtain ⟨a9, c9, e9, _⟩ := id hs9
      rw [e9] at hs9
      simp [go_sem, gives, frm, Act.put, nthR, Region.wanted, e9]
      (with_reducible refine ((HBD1.out.past (Past.prop x)).load hs9 hp9).mono ?_); rintro e w3 ⟨v, rfl, h1, hb3⟩; exact ⟨_, rfl, hb3, h1⟩
    | 11, _ =>
      obtain rfl := Option.some.inj ho
      intro u x hd
      have hc := Past.cell x
      have h4 : ∃ m2, u 4 = ctV (.slice ac C.length cc) m2 ∧ w1.heap.size ≤ m2 ∧ MapU x.1 m2 U := hd 4 (by decide) (by kernel_rfl)
      have e4 := h4.choose_spec.1; have hm4 := h4.choose_spec.2; generalize h4.choose = m2 at *
      have h10 : ldR (fnsS L) (u 10) x.1 := hd 10 (by decide) (by kernel_rfl)
      obtain ⟨a10, n10, c10, e10⟩ := ldR_sli h10
      rw [e10] at h10
      simp [go_sem, gives, frm, Act.put, nthR, Region.wanted, Below.refl, e4, e10]
      exact ⟨m2, _, rfl, hm4.1, hm4.2, h10⟩
    | 12, _ =>
      obtain rfl := Option.some.inj ho
      intro u x hd
      have hc := Past.cell x
      simp [go_sem, gives, nthR, Region.wanted]
      exact ⟨by (repeat (first | exact Below.refl _ _ | assumption | refine balloc ?_ _ | refine below_drewN ?_ _ | refine bstep (by assumption) ?_ | refine bstep (Past.prop _) ?_ | refine Below.setCell ?_ (by first | exact Nat.le_refl _ | (simp; done) | (simp; omega)) _)), ⟨_, rfl, (Past.prop x).size, Blk.made _ _ _⟩⟩
    | i + 13, h => exact absurd h (by omega)
  · intro i o hx ho
    simp at hx
  · intro u x9 hu hne
    obtain ⟨d, e12, hdz, BD⟩ : newR w1.heap.size #[.slice none 0 0, .map none, .slice none 0 0] 122 (u 12) x9.1 := hu 12 (by decide)
    obtain ⟨m2, vs, e11, hmz, hM2, hld⟩ : drvR (.slice ac C.length cc) w1.heap.size U (fnsS L) (u 11) x9.1 := hu 11 (by decide)
    obtain ⟨a0, n0, c0, rfl⟩ := ldR_sli hld
    simp only [frm, List.take, Act.put, e11, e12]
    have hbd9 := HBD1.out.past x9.2
    obtain ⟨w8, hw8⟩ : ∃ w8, w8 = (((x9.1.setCell ⟨d, 0, none⟩ (.slice ac C.length cc)).setCell ⟨d, 1, none⟩ (.map (some m2))).setCell ⟨d, 2, none⟩ (.slice a0 n0 c0)) := ⟨_, rfl⟩
    have hg8 : x9.1.grownBy w8 (some d) := by rw [hw8]; exact grown_trans (grown_trans (grown_set _ _ _ _) (grown_set _ _ _ _)) (grown_set _ _ _ _)
    have hni : NoInt x9.1 d := noInt_three BD
    have hbd8 : Body w8 m2 U rows rvs L := ({ hbd9 with map := hM2 } : Body x9.1 m2 U rows rvs L).keepI hg8 hni (hM2.ne_blk BD)
    have B8 : Blk w8 d #[.slice ac C.length cc, .map (some m2), .slice a0 n0 c0] 122 := by
      rw [hw8]
      simpa using ((BD.set 0 (.slice ac C.length cc)).set 1 (.map (some m2))).set 2 (.slice a0 n0 c0)
    have hD8 : Dr w8 d m2 (.slice ac C.length cc) L := ⟨U, rows, rvs, _, B8, hbd8, ldR_keepI hld (keepI_grown hg8 hni)⟩
    have z1 : Below w.heap.size w x9.1 := HB1.out.trans (x9.2.mono HB1.out.size)
    have z2 : Below w.heap.size w w8 := Below.grown z1 hg8 z1.size (fun k e => by cases e; have := HB1.out.size; omega)
    have HD8 := hidE hD8; have HZ2 := hidE z2
    have HDZ := hidE (show w.heap.size ≤ d from by have := HB1.out.size; omega); have HMZ := hidE (show w.heap.size ≤ m2 from by have := HB1.out.size; omega)
    have r0 := BD.cell 0; have r1 := BD.cell 1; have r2 := BD.cell 2; have rf := BD.free; have rz := BD.lt
    simp at r0 r1 r2
    clear hu hne e11 e12 hM2 hld hbd9 hg8 hni hbd8 B8 hD8 z1 z2 BD q0 q1 qz HBD1 HB1 HBD HLL hdz hmz
    generalize x9.1 = w9 at *
    go_upto_region 5 with fail
    rw [← hw8]
    clear hw8 r0 r1 r2 rf rz
    go_loopw [26] (fun s wr => ∃ (k : Nat), s = .int .i64 k ∧ k ≤ l.length ∧ (runS L (cs.take k)).2 = 0 ∧ Dr wr d m2 (.slice ac C.length cc) (runS L (cs.take k)).1 ∧ Below w.heap.size w wr) (fun s _ => l.length - (intOf s).toNat)
    case atStart => exact ⟨0, rfl, Nat.zero_le _, rfl, HD8.out, HZ2.out⟩
    case round =>
      obtain ⟨k, rfl, hk, hr0, hDk, hbk⟩ := hrel
      have HR0 := hidE hr0; have HDK := hidE hDk; have HBK := hidE hbk
      by_cases hlt : k < l.length
      · obtain ⟨b, off, rfl, hbz, hcc⟩ := HV3.out (by omega)
        have hlc : k < cs.length := by rw [HCS.out.len]; exact hlt
        have hst := runS_ok_take hlc hr0
        have hx := (HCS.out.rv k hlt).past hbk
        have hsm := HCS.out.small k hlt
        obtain ⟨hkd, hk0, hk5⟩ := HCS.out.kd k hlt
        have hbr : b < wr.heap.size := Nat.lt_of_lt_of_le hbz hbk.size
        have e0 := hcc k 0 hlt (by omega); have e1 := hcc k 1 hlt (by omega); have e2 := hcc k 2 hlt (by omega); have e3 := hcc k 3 hlt (by omega); have e4 := hcc k 4 hlt (by omega); have e5 := hcc k 5 hlt (by omega); have e6 := hcc k 6 hlt (by omega); have e7 := hcc k 7 hlt (by omega); have e8 := hcc k 8 hlt (by omega)
        rw [← hbk.cell hbz] at e0 e1 e2 e3 e4 e5 e6 e7 e8
        rw [← hkd] at hst
        generalize hq : cs.getD k (0, rv0) = q at *
        generalize l.getD k cw0 = y at *
        obtain ⟨kd, x⟩ := y
        simp only [cwCells, Rw.cells] at e0 e1 e2 e3 e4 e5 e6 e7 e8
        simp at e0 e1 e2 e3 e4 e5 e6 e7 e8
        simp only at hk0 hk5 hx hst
        clear hkd
        have hxf := hx.fit (by have := hsm.2.2.2; unfold maxLen; omega)
        obtain ⟨xi, xq, xu, xf, xt, xT, xW, xA⟩ := x
        obtain ⟨⟨a5, n5, c5, q5⟩, ⟨a6, n6, c6, q6⟩, ⟨a7, n7, c7, q7⟩, _⟩ := hxf
        simp only at q5 q6 q7 e0 e1 e2 e3 e4 e5 e6 e7 e8
        subst q5 q6 q7
        obtain ⟨w4, hw4⟩ : ∃ w4, w4 = wr.alloc (Obj.cells #[.int .u8 kd, .int .u32 xi, .int .u32 xq, nmV xu, .int .i64 xf, .int .i64 xt, .slice a5 n5 c5, .slice a6 n6 c6, .slice a7 n7 c7] 52) := ⟨_, rfl⟩
        have B4 : Blk w4 wr.heap.size #[.int .u8 kd, .int .u32 xi, .int .u32 xq, nmV xu, .int .i64 xf, .int .i64 xt, .slice a5 n5 c5, .slice a6 n6 c6, .slice a7 n7 c7] 52 := by rw [hw4]; exact Blk.made _ _ _
        have hb4 : Below wr.heap.size wr w4 := by rw [hw4]; exact (Below.refl _ _).alloc (Nat.le_refl _) _
        have HCG := hidE (change_c w4 (hDk.past hb4) (hx.past hb4) hsm hk0 hk5)
        have HB4 := hidE (hbk.trans (hb4.mono hbk.size))
        have HST := hidE hst
        have HLC := hidE hlc
        go_upto_region 7 with fail
        rw [← hw4]
        clear hw4
        have b0 := B4.cell 0; have b1 := B4.cell 1; have b2 := B4.cell 2; have b3 := B4.cell 3; have b4 := B4.cell 4; have b5 := B4.cell 5; have b6 := B4.cell 6; have b7 := B4.cell 7; have b8 := B4.cell 8; have bz := B4.lt
        simp at b0 b1 b2 b3 b4 b5 b6 b7 b8
        clear e0 e1 e2 e3 e4 e5 e6 e7 e8 B4 hb4 hx hsm hst hcc hDk hbk hr0 hk0 hk5 hlc HD8 hq
        go_wp2_with fail
        ((with_reducible refine (HCG.out).mono ?_); rintro e w5 ⟨hb5, rfl, hd5⟩)
        have HB5 := hidE (HB4.out.trans (hb5.below HDZ.out HMZ.out HB4.out.size))
        have HD5 := hidE hd5
        clear hb5 hd5 b0 b1 b2 b3 b4 b5 b6 b7 b8 bz HCG
        generalize oneS (runS L (cs.take k)).1 kd q.2 = z at *
        by_cases hz : z.2 = 0
        · have dz : (z.2 != 0) = false := by rw [bne_eq_false_iff_eq]; exact hz
          have hd5 := HD5.out hz
          have hst := HST.out
          rw [if_pos hz] at hst
          have HQ := hidE (And.intro hst (And.intro hz hd5))
          clear hz hd5 hst
          go_wp2
          exact ⟨⟨k + 1, by go_num, by omega, by rw [HQ.out.1]; exact HQ.out.2.1, by rw [HQ.out.1]; exact HQ.out.2.2, HB5.out⟩, by simp [intOf]; omega⟩
        · have dz : (z.2 != 0) = true := bne_iff_ne.2 hz
          have hst := HST.out
          rw [if_neg hz] at hst
          have HQ := hidE (doP_bad (L := L) (cs := cs) (k := k + 1) (e := z.2) (by have := HLC.out; omega) (by rw [hst]) hz)
          have HPP := hidE (HPL.out.past HB5.out)
          clear hz hst
          go_wp2
          go_ret
          unfold DoIs
          rw [HQ.out]
          exact ⟨rfl, grown_any HB5.out, HPP.out, fun _ => HB5.out⟩
      · have hkl : k = l.length := by omega
        have hr0 := HR0.out
        have hDk := HDK.out
        rw [List.take_of_length_le (by rw [HCS.out.len]; omega)] at hr0 hDk
        have hdo : doP L cs = runS L cs := by unfold doP; rw [if_pos hr0]
        obtain ⟨U2, rows2, rvs2, vs2, hBd2, hP2, _⟩ := hDk.has
        have hBp := HB.out.past HBK.out
        obtain ⟨wf, hwf⟩ : ∃ wf, wf = (wr.setCell ⟨p, 0, none⟩ (.slice ac C.length cc)).setCell ⟨p, 1, none⟩ (.map (some m2)) := ⟨_, rfl⟩
        have hgf : wr.grownBy wf (some p) := by rw [hwf]; exact grown_trans (grown_set _ _ _ _) (grown_set _ _ _ _)
        have hni : NoInt wr p := noInt_two hBp
        have hPf := hP2.keepI hgf hni (hP2.map.ne_blk hBp)
        have hBf : Blk wf p #[.slice ac C.length cc, .map (some m2)] 80 := by
          rw [hwf]
          simpa using (hBp.set 0 (.slice ac C.length cc)).set 1 (.map (some m2))
        have hCf := (HC.out.past HBK.out).keepI (keepI_grown hgf hni)
        have HQ := hidE (show DoIs w p L C cs (.returned (.int .i64 0)) wf from by
          unfold DoIs
          rw [hdo, hr0]
          exact ⟨rfl, grown_trans (grown_any HBK.out) hgf, ⟨_, _, _, _, _, hBf, hCf, hPf⟩, fun h => absurd rfl h⟩)
        have d0 := hBd2.cell 0; have d1 := hBd2.cell 1; have dz := hBd2.lt
        have p0 := hBp.cell 0; have p1 := hBp.cell 1; have pf := hBp.free; have pz := hBp.lt
        simp at d0 d1 p0 p1
        rw [hwf] at HQ
        clear hkl hr0 hDk hdo hP2 hgf hni hPf hBf hCf hBd2 hBp hwf HD8 hbk
        go_wp2
        go_ret
        exact HQ.out
end Go.Proofs.YtpoejeambnbcaaaGreat
