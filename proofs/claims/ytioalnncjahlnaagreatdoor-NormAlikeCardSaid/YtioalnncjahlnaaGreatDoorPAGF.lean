/- The document's own first rule that changes a term: liveryref09.one. Conditions: the term may be, and is small. The document's own plain form of a term: liveryref09.plain. Conditions: the term may be, and is small. A row of integers of a call's own, and what its exchanges come to. No conditions. A row of numbers of a call's own, with room behind it, and what its exchanges come to. No conditions. The children's order: the stable sort of at most 20 places, by a comparison that only makes memory. No conditions but the row's size. The children's order as places: a stable order by the texts' ranks is the rules' own. No program. No conditions. The rule of order: (*term).sort. Conditions: the block reads as a term that may be, its size, the tables. -/
import Derived.Test.YtioalnncjahlnaaGreatDoorPAGE
import Derived.Test.YtioalnncjahlnaaGreatDoorPAGC
import Derived.Test.YtioalnncjahlnaaGreatDoorPAGA
import Derived.Test.YtioalnncjahlnaaGreatDoorPAMA
import Derived.LoopTactic
import Derived.BigRegion
import Derived.Outline
import Derived.Deep.LoopGhost
namespace Go.Proofs.YtioalnncjahlnaaGreatDoor
open Go.ChangeShapes Go.WideShapes Go.ChangeAt Go.RowKit
attribute [local irreducible] Go.Calls

theorem flatG_sz (k m : Nat) (K : Fst) : sizL (flatG k m (toL K)) ≤ K.size := by
  rcases flatG_siz k (toL K) m with q | q
  · rw [q, sizL_to]; exact Nat.le_refl _
  · rw [sizL_to] at q; omega
/-- What `one` hands back. -/
def OneIs (lo : Nat → Prop) (w : World) (t : Tm) (e : Ending) (w' : World) : Prop :=
  ∃ (u : Tm) (b : Bool) (a : Option Addr) (c : Nat) (a2 : Option Addr) (c2 : Nat), e = .returned (.tuple #[tmV (sizT u) a c a2 c2, .bool b]) ∧ TmAt (fun k => lo k ∨ w.heap.size ≤ k) w' u a c a2 c2 ∧ Below w.heap.size w w' ∧ ((b = false ∧ u = t ∧ oneT t = none) ∨ (b = true ∧ oneT t = some u))
/-- The value is a term that lies in new blocks. -/
def tmR (B : Nat) (t : Tm) : Value → World → Prop := fun v w => ∃ a c a2 c2, v = tmV (sizT t) a c a2 c2 ∧ TmAt (fun k => B ≤ k) w t a c a2 c2
theorem stab_tm (B : Nat) (t : Tm) : Stab (tmR B t) := fun _ _ _ ⟨a, c, a2, c2, h1, h2⟩ hb => ⟨a, c, a2, c2, h1, h2.past hb⟩
/-- The value is a slice of terms. -/
def sliMR (lo : Nat → Prop) (l : List Tm) : Value → World → Prop := fun v w => SliM lo w v l
theorem stab_sliM (lo : Nat → Prop) (l : List Tm) : Stab (sliMR lo l) := fun _ _ _ h hb => SliM.past h hb
theorem TmAt.cut {lo : Nat → Prop} {w : World} {B : Nat} {t : Tm} {b off c b2 off2 c2 : Nat} (h : TmAt lo w t (some ⟨b, off, none⟩) c (some ⟨b2, off2, none⟩) c2) (hb : b < B) (hb2 : b2 < B) : TmAt (fun k => lo k ∧ k < B) w t (some ⟨b, off, none⟩) c (some ⟨b2, off2, none⟩) c2 :=
  ⟨h.n1, h.n1m, h.n2, h.n2m, h.L, h.F, fun x e => by cases e; exact ⟨h.low _ rfl, hb⟩, fun x e => by cases e; exact ⟨h.low2 _ rfl, hb2⟩⟩
theorem RowM.store {lo : Nat → Prop} {w : World} {g : Nat} (hg : ¬ lo g) (i : Nat) (v : Value) : ∀ {xs : List Value} {l : List Tm}, RowM lo w xs l → RowM lo (w.setCell ⟨g, i, none⟩ v) xs l
  | [], [], _ => trivial
  | [], _ :: _, h => h
  | [_], [], h => h
  | [_], _ :: _, h => h
  | _ :: _ :: _, [], h => h
  | _v1 :: _v2 :: _xs, _t :: _l, ⟨⟨a, c, a2, c2, e1, e2, h⟩, h2⟩ => ⟨⟨a, c, a2, c2, e1, e2, h.store hg i v⟩, RowM.store hg i v h2⟩
/-- A store into a block that holds no slices. -/
theorem SliM.put {lo : Nat → Prop} {w : World} {v : Value} {l : List Tm} {g : Nat} {cs : Array Value} {t : TypeId} (h : SliM lo w v l) (hb : Blk w g cs t) (hcs : ∀ (a : Option Addr) (n c : Nat), Value.slice a n c ∉ cs) (hg : ¬ lo g) (i : Nat) (u : Value) : SliM lo (w.setCell ⟨g, i, none⟩ u) v l := by
  obtain ⟨a, cap, e, h1, h2, h3, h4⟩ := h
  refine ⟨a, cap, e, h1, h2, h3, fun hl => ?_⟩
  obtain ⟨b, off, ea, q1, xs, q2, q3⟩ := h4 hl
  have hne : b ≠ g := fun q => by
    obtain ⟨ak, ck, _, _, g1, _, _⟩ := q2.get 0 hl
    have g2 := q3 _ _ g1
    rw [q, hb.cell] at g2
    exact hcs _ _ _ (Array.mem_of_getElem? g2)
  refine ⟨b, off, ea, by simpa [World.setCell] using q1, xs, q2.store hg i u, fun j y hy => ?_⟩
  have := Below.heap_setCell w ⟨g, i, none⟩ u b hne
  have e2 : (w.setCell ⟨g, i, none⟩ u).cell? ⟨b, off + j, none⟩ = w.cell? ⟨b, off + j, none⟩ := by simp only [World.cell?, this]
  rw [e2]; exact q3 j y hy
/-- A store into a block that holds no numbers. -/
theorem TmAt.put {lo : Nat → Prop} {w : World} {t : Tm} {a a2 : Option Addr} {c c2 : Nat} {g : Nat} {cs : Array Value} {ty : TypeId} (h : TmAt lo w t a c a2 c2) (hb : Blk w g cs ty) (hcs : ∀ (k : IntKind) (z : Int), Value.int k z ∉ cs) (i : Nat) (v : Value) : TmAt lo (w.setCell ⟨g, i, none⟩ v) t a c a2 c2 := by
  have hc : ∀ b o, b ≠ g → (w.setCell ⟨g, i, none⟩ v).cell? ⟨b, o, none⟩ = w.cell? ⟨b, o, none⟩ := fun b o hb => by
    have := Below.heap_setCell w ⟨g, i, none⟩ v b hb
    simp only [World.cell?, this]
  have hz : (w.setCell ⟨g, i, none⟩ v).heap.size = w.heap.size := by simp [World.setCell]
  have no : ∀ o k z, w.cell? ⟨g, o, none⟩ ≠ some (.int k z) := fun o k z e => by
    rw [hb.cell] at e
    exact hcs _ _ (Array.mem_of_getElem? e)
  refine ⟨h.n1, h.n1m, h.n2, h.n2m, fun hl => ?_, fun hl => ?_, h.low, h.low2⟩
  · obtain ⟨b, off, e, h1, h2⟩ := h.L hl
    have hb : b ≠ g := fun q => no _ _ _ (q ▸ (h2 0 hl).1)
    refine ⟨b, off, e, by rw [hz]; exact h1, fun j hj => ?_⟩
    rw [hc b _ hb, hc b _ hb, hc b _ hb, hc b _ hb, hc b _ hb]
    exact h2 j hj
  · obtain ⟨b, off, e, h1, h2⟩ := h.F hl
    have hb : b ≠ g := fun q => no _ _ _ (q ▸ h2 0 hl)
    refine ⟨b, off, e, by rw [hz]; exact h1, fun j hj => ?_⟩
    rw [hc b _ hb]
    exact h2 j hj
/-- What `one` has: its term, the answer's place, the first part, the children. -/
structure OnS (lo : Nat → Prop) (w : World) (x : Prt) (K : Fst) (n c c2 b off b2 off2 p4 : Nat) (a5 : Option Addr) (c5 : Nat) (W : World) : Prop where
  h1 : Blk W w.heap.size #[.slice (some ⟨b, off, none⟩) n c, .slice (some ⟨b2, off2, none⟩) n c2] 63
  h2 : Blk W (w.heap.size + 1) #[.slice none 0 0, .slice none 0 0] 63
  h4 : Blk W p4 #[.int .u8 x.kind, .int .u32 x.n, .int .u32 x.g, .int .i64 x.d, .int .i64 (K.len : Int)] 35
  bel : Below w.heap.size w W
  sl : SliM lo W (.slice a5 K.len c5) (toL K)
theorem OnS.past {lo : Nat → Prop} {w : World} {x : Prt} {K : Fst} {n c c2 b off b2 off2 p4 : Nat} {a5 : Option Addr} {c5 : Nat} {W W' : World} (h : OnS lo w x K n c c2 b off b2 off2 p4 a5 c5 W) (hb : Below W.heap.size W W') : OnS lo w x K n c c2 b off b2 off2 p4 a5 c5 W' :=
  ⟨h.h1.past hb, h.h2.past hb, h.h4.past hb, h.bel.trans (hb.mono h.bel.size), h.sl.past hb⟩
theorem onS_put {lo : Nat → Prop} {w : World} {x : Prt} {K : Fst} {n c c2 b off b2 off2 p4 : Nat} {a5 : Option Addr} {c5 : Nat} {W W0 : World} {g i : Nat} {v : Value} (h : OnS (fun k => lo k ∧ k < w.heap.size) w x K n c c2 b off b2 off2 p4 a5 c5 W0) (hb : Below W0.heap.size W0 W) (hg : W0.heap.size ≤ g) : OnS (fun k => lo k ∧ k < w.heap.size) w x K n c c2 b off b2 off2 p4 a5 c5 (W.setCell ⟨g, i, none⟩ v) :=
  h.past (hb.setCell (p := ⟨g, i, none⟩) hg v)
theorem putM {W : World} {p : Nat} {v1 v2 : Value} {t : TypeId} (h : Blk W p #[v1, v2] t) (u1 u2 : Value) : Blk ((W.setCell ⟨p, 0, none⟩ u1).setCell ⟨p, 1, none⟩ u2) p #[u1, u2] t := by
  have := (h.set 0 u1).set 1 u2
  simpa using this
theorem onS_made {lo : Nat → Prop} {w w0 w9 : World} {x : Prt} {K : Fst} {n c c2 b off b2 off2 p4 : Nat} {a5 : Option Addr} {c5 : Nat} (hb0 : Below w.heap.size w w0) (h1 : Blk w0 w.heap.size #[.slice (some ⟨b, off, none⟩) n c, .slice (some ⟨b2, off2, none⟩) n c2] 63) (h2 : Blk w0 (w.heap.size + 1) #[.slice none 0 0, .slice none 0 0] 63) (hb9 : Below w0.heap.size w0 w9) (h4 : Blk w9 p4 #[.int .u8 0, .int .u32 0, .int .u32 0, .int .i64 0, .int .i64 0] 35) (hp : w0.heap.size ≤ p4) (hs : SliM (fun k => lo k ∧ k < w.heap.size) w9 (.slice a5 K.len c5) (toL K)) :
    OnS (fun k => lo k ∧ k < w.heap.size) w x K n c c2 b off b2 off2 p4 a5 c5 (((((w9.setCell ⟨p4, 0, none⟩ (.int .u8 x.kind)).setCell ⟨p4, 1, none⟩ (.int .u32 x.n)).setCell ⟨p4, 2, none⟩ (.int .u32 x.g)).setCell ⟨p4, 3, none⟩ (.int .i64 x.d)).setCell ⟨p4, 4, none⟩ (.int .i64 (K.len : Int))) := by
  have hn1 : w.heap.size ≠ p4 := by have := h1.lt; omega
  have hn2 : w.heap.size + 1 ≠ p4 := by have := h2.lt; omega
  have s9 := hb9.size; have s0 := hb0.size
  have q4 := ((((h4.set 0 (.int .u8 x.kind)).set 1 (.int .u32 x.n)).set 2 (.int .u32 x.g)).set 3 (.int .i64 x.d)).set 4 (.int .i64 (K.len : Int))
  simp at q4
  refine ⟨((((h1.past hb9).other hn1 _).other hn1 _ |>.other hn1 _).other hn1 _).other hn1 _, ((((h2.past hb9).other hn2 _).other hn2 _ |>.other hn2 _).other hn2 _).other hn2 _, q4, ?_, ?_⟩
  · exact (((((hb0.trans (hb9.mono hb0.size)).setCell (p := ⟨p4, 0, none⟩) (by simp; omega) _).setCell (p := ⟨p4, 1, none⟩) (by simp; omega) _).setCell (p := ⟨p4, 2, none⟩) (by simp; omega) _).setCell (p := ⟨p4, 3, none⟩) (by simp; omega) _).setCell (p := ⟨p4, 4, none⟩) (by simp; omega) _
  · have hl : ¬ (lo p4 ∧ p4 < w.heap.size) := fun q => by omega
    exact SliM.put (SliM.put (SliM.put (SliM.put (SliM.put hs h4 (by simp) hl _ _) (h4.set 0 _) (by simp) hl _ _) ((h4.set 0 _).set 1 _) (by simp) hl _ _) (((h4.set 0 _).set 1 _).set 2 _) (by simp) hl _ _) ((((h4.set 0 _).set 1 _).set 2 _).set 3 _) (by simp) hl _ _
set_option maxRecDepth 100000 in
set_option maxHeartbeats 4000000 in
theorem one9_c (lo : Nat → Prop) (x : Prt) (K : Fst) (deep ink n : Nat) (a : Option Addr) (c : Nat) (a2 : Option Addr) (c2 : Nat) (w : World) (hn : n = sizT (x, K)) (hf : FitT (x, K) deep ink) (hd : 1 ≤ deep) (hs : n ≤ 64) (hx : 0 ≤ x.kids) (hT : TmAt lo w (x, K) a c a2 c2) :
    Calls Tryz.prog 48 #[tmV n a c a2 c2] w (OneIs lo w (x, K)) := by
  have hgd := fitT_gd hf
  have hk16 := (badP_kids hf.1)
  have hkd := badP_kind hf.1
  simp only at hk16 hkd
  have hl16 : K.len ≤ 16 := by
    by_cases q : x.kind = 0
    · rw [hk16.1 q]; omega
    · exact (hk16.2 q).2
  have hall := (fit_all K _ _).1 hf.2.2.2
  have hlk : ∀ t ∈ toL K, t.2.len ≤ 16 := fun t ht => fitT_len (hall t ht)
  have hszk : ∀ t ∈ toL K, sizT t ≤ 100000 := fun t ht => by
    obtain ⟨A, B, e⟩ := List.append_of_mem ht
    have := sizL_to K
    rw [e, sizL_app] at this
    simp only [sizL] at this
    simp only [sizT] at hn this ⊢; omega
  have hgl : GdL (toL K) := fun t ht => ⟨(gd_all K).1 hgd.2 t ht, hszk t ht⟩
  obtain ⟨b, off, rfl, hbb, hc⟩ := hT.L (by rw [flT_len]; simp only [sizT]; omega)
  obtain ⟨b2, off2, rfl, hbb2, hc2⟩ := hT.F (by rw [natsI_len, frT_len]; simp only [sizT]; omega)
  have p0 := hc.get (i := 0) (by rw [flT_len]; simp only [sizT]; omega)
  have q0 := hc2 0 (by rw [natsI_len, frT_len]; simp only [sizT]; omega)
  rw [flT_eq] at p0
  obtain ⟨p0, p1, p2, p3, p4⟩ := p0
  simp at p0 p1 p2 p3 p4
  have hq : (natsI (frT (x, K))).getD 0 0 = x.kids := by simp [frT, fromF_cons, natsI]; omega
  rw [hq] at q0
  simp at q0
  have HT := hidE hT; have HGL := hidE hgl; have HLK := hidE hlk; have HFT := hidE hf; have HN := hidE hn; have HGD := hidE hgd
  have HST := hidE (sort_text hf hd (by rw [← hn]; exact hs))
  have hs0 : 0 < n := by rw [hn]; simp only [sizT]; omega
  have hm1 : n ≤ c := by rw [hn]; exact hT.n1
  have hm2 : n ≤ c2 := by rw [hn]; exact hT.n2
  clear hc hc2 hT hgl hlk hf hn hgd hall hszk hq hk16
  go_enter Tryz.func48, Tryz.ntmps48
  go_upto_region 1 with fail
  obtain ⟨w0, hw0⟩ : ∃ w0, w0 = (w.alloc (.cells #[.slice (some ⟨b, off, none⟩) n c, .slice (some ⟨b2, off2, none⟩) n c2] 63)).alloc (.cells #[.slice none 0 0, .slice none 0 0] 63) := ⟨_, rfl⟩
  rw [← hw0]
  have hb0 : Below w.heap.size w w0 := by rw [hw0]; (repeat (first | exact Below.refl _ _ | assumption | refine balloc ?_ _ | refine below_drewN ?_ _ | refine bstep (by assumption) ?_ | refine bstep (Past.prop _) ?_ | refine Below.setCell ?_ (by first | exact Nat.le_refl _ | (simp; done) | (simp; omega)) _))
  have h1 : Blk w0 w.heap.size #[.slice (some ⟨b, off, none⟩) n c, .slice (some ⟨b2, off2, none⟩) n c2] 63 := by rw [hw0]; exact (Blk.made _ _ _).alloc _
  have h2 : Blk w0 (w.heap.size + 1) #[.slice none 0 0, .slice none 0 0] 63 := by rw [hw0]; exact Blk.made_at _ _ _ _ (by simp)
  clear hw0
  go_cut [4, 5] (fun v4 v5 wx => ∃ (r4 : Nat) (a5 : Option Addr) (c5 : Nat), v4 = .pointer (some ⟨r4, 0, none⟩) ∧ v5 = .slice a5 K.len c5 ∧ OnS (fun k => lo k ∧ k < w.heap.size) w x K n c c2 b off b2 off2 r4 a5 c5 wx)
  case first =>
    have f0 := h1.cell 0; have f1 := h1.cell 1; have fz := h1.lt
    simp at f0 f1
    have bb := Nat.lt_of_lt_of_le hbb hb0.size
    have t0 := (hb0.cell (p := ⟨b, _, none⟩) hbb).trans p0; have t1 := (hb0.cell (p := ⟨b, _, none⟩) hbb).trans p1; have t2 := (hb0.cell (p := ⟨b, _, none⟩) hbb).trans p2; have t3 := (hb0.cell (p := ⟨b, _, none⟩) hbb).trans p3; have t4 := (hb0.cell (p := ⟨b, _, none⟩) hbb).trans p4
    have HC := hidE (fun (W : World) (h : Below w0.heap.size w0 W) => kids9_c (fun k => lo k ∧ k < w.heap.size) (x, K) (some ⟨b, off, none⟩) c (some ⟨b2, off2, none⟩) c2 W HGD.out (by rw [← HN.out]; omega) ((HT.out.cut hbb hbb2).past (hb0.trans (h.mono hb0.size))))
    rw [← HN.out] at HC
    have HB0 := hidE hb0; have H1 := hidE h1; have H2 := hidE h2
    clear hb0 h1 h2 p0 p1 p2 p3 p4 q0
    refine wp_region_J 7 [] (nthR [detR (.pointer (some ⟨w.heap.size, 0, none⟩)), detR (.slice (some ⟨b, off, none⟩) n c), detR (.pointer (some ⟨b, off, none⟩)), detR (prtV { x with kids := (K.len : Int) }), detR (tmV n (some ⟨b, off, none⟩) c (some ⟨b2, off2, none⟩) c2), sliMR (fun k => lo k ∧ k < w.heap.size) (toL K), newR w0.heap.size #[.int .u8 0, .int .u32 0, .int .u32 0, .int .i64 0, .int .i64 0] 35]) (fun _ => false) (by kernel_rfl) (by simp) (by kernel_rfl) (stab_nth (by simp [stab_det, stab_new, stab_sliM])) ?_ ?_ ?_
    · intro i o hi ho
      match i, hi with
      | 0, _ =>
        obtain rfl := Option.some.inj ho
        intro u x hd
        have hc := Past.cell x
        simp [go_sem, gives, frm, Act.put, nthR, detR, Region.wanted, Below.refl]
      | 1, _ =>
        obtain rfl := Option.some.inj ho
        intro u x hd
        have hc := Past.cell x
        have d0 := hd 0 (by decide) (by kernel_rfl)
        simp only [nthR, detR, List.getD_cons_zero] at d0
        simp [go_sem, gives, frm, Act.put, nthR, detR, Region.wanted, Below.refl, hc, d0, f0, fz]
      | 2, _ =>
        obtain rfl := Option.some.inj ho
        intro u x hd
        have hc := Past.cell x
        have d1 := hd 1 (by decide) (by kernel_rfl)
        simp only [nthR, detR, List.getD_cons_zero, List.getD_cons_succ] at d1
        simp [go_sem, gives, frm, Act.put, nthR, detR, Region.wanted, Below.refl, d1, hs0]
      | 3, _ =>
        obtain rfl := Option.some.inj ho
        intro u x hd
        have hc := Past.cell x
        have d2 := hd 2 (by decide) (by kernel_rfl)
        simp only [nthR, detR, List.getD_cons_zero, List.getD_cons_succ] at d2
        simp [go_sem, gives, frm, Act.put, nthR, detR, Region.wanted, Below.refl, hc, d2, t0, t1, t2, t3, t4, bb]
      | 4, _ =>
        obtain rfl := Option.some.inj ho
        intro u x hd
        have hc := Past.cell x
        simp [go_sem, gives, frm, Act.put, nthR, detR, Region.wanted, Below.refl, hc, f0, f1, fz]
      | 5, _ =>
        obtain rfl := Option.some.inj ho
        intro u x hd
        have hc := Past.cell x
        have d4 := hd 4 (by decide) (by kernel_rfl)
        simp only [nthR, detR, List.getD_cons_zero, List.getD_cons_succ] at d4
        simp [go_sem, gives, frm, Act.put, nthR, Region.wanted, d4]
        have hx2 := x.2; (with_reducible refine (HC.out _ hx2).mono ?_); rintro e w3 ⟨v, rfl, hr3, hb3⟩; exact ⟨_, rfl, hb3, (hr3.own hb3).sli⟩
      | 6, _ =>
        obtain rfl := Option.some.inj ho
        intro u x hd
        have hc := Past.cell x
        simp [go_sem, gives, nthR, Region.wanted]
        exact ⟨by (repeat (first | exact Below.refl _ _ | assumption | refine balloc ?_ _ | refine below_drewN ?_ _ | refine bstep (by assumption) ?_ | refine bstep (Past.prop _) ?_ | refine Below.setCell ?_ (by first | exact Nat.le_refl _ | (simp; done) | (simp; omega)) _)), ⟨_, rfl, by simpa using x.2.size, Blk.made _ _ _⟩⟩
      | i + 7, h => exact absurd h (by omega)
    · intro i o h; cases h
    · intro u x9 hu hne
      obtain ⟨r4, e4, r4z, B4⟩ : newR w0.heap.size #[.int .u8 0, .int .u32 0, .int .u32 0, .int .i64 0, .int .i64 0] 35 (u 6) x9.1 := hu 6 (by decide)
      have e3 : u 3 = prtV { x with kids := (K.len : Int) } := hu 3 (by decide)
      have hs5 : SliM (fun k => lo k ∧ k < w.heap.size) x9.1 (u 5) (toL K) := hu 5 (by decide)
      obtain ⟨a5, c5, e5, _, _, _, _⟩ := id hs5
      rw [toL_len] at e5
      simp only [frm, List.take, Act.put, e3, e4, e5]
      have HB9 := hidE x9.2; have HB4 := hidE B4; have HS5 := hidE hs5; have E5 := hidE e5
      have g0 := B4.free 0; have g1 := B4.free 1; have g2 := B4.free 2; have g3 := B4.free 3; have g4 := B4.free 4; have gz := B4.lt; have j0 := B4.cell 0; have j1 := B4.cell 1; have j2 := B4.cell 2; have j3 := B4.cell 3; have j4 := B4.cell 4
      simp at j0 j1 j2 j3 j4
      clear hu hne e3 e4 e5 hs5 B4 t0 t1 t2 t3 t4 f0 f1 fz bb
      generalize x9.1 = w9 at *
      go_wp2
      go_meet
      case rel =>
        have s9 := HB9.out.size; have s0 := HB0.out.size
        refine ⟨r4, a5, c5, rfl, rfl, ?_⟩
        exact onS_made HB0.out H1.out H2.out HB9.out HB4.out r4z (by rw [← E5.out]; exact HS5.out)
  case rest =>
  obtain ⟨r4, a5, c5, rfl, rfl, hS⟩ := hcut
  have HS := hidE hS
  clear hS hb0 h1 h2 p1 p2 p3 p4
  have HQ := hidE q0; have HP := hidE p0
  clear q0 p0
  obtain ⟨W, hW⟩ : ∃ W, W = wc := ⟨_, rfl⟩
  rw [← hW]; rw [← hW] at HS; clear hW
  by_cases h1 : K.len = 1
  · obtain ⟨k1, hk1⟩ : ∃ k1, toL K = [k1] := List.length_eq_one_iff.1 (by rw [toL_len]; exact h1)
    have hsl := HS.out.sl
    rw [hk1] at hsl
    obtain ⟨a6, c6, e6, _, _, _, hA⟩ := hsl
    simp only [Value.slice.injEq] at e6
    obtain ⟨rfl, e6, rfl⟩ := e6
    clear e6
    obtain ⟨b6, o6, rfl, hb6, hc6⟩ := hA (by simp)
    obtain ⟨ak, ck, ak2, ck2, d0, d1, hT1⟩ := hc6.get (i := 0) (by simp)
    simp at d0 d1 hT1
    have z2 := HS.out.h2.lt; have f0 := HS.out.h2.free 0; have f1 := HS.out.h2.free 1; have j0 := HS.out.h2.cell 0; have j1 := HS.out.h2.cell 1
    simp at j0 j1
    have HOT := hidE (show oneT (x, K) = some k1 by unfold oneT; simp only [hk1]; rfl)
    have HF2 := hidE (putM (HS.out.h2) (.slice ak (sizT k1) ck) (.slice ak2 (sizT k1) ck2))
    have HT1 := hidE hT1; have HBL := hidE HS.out.bel
    have HL1 := hidE h1
    rw [h1]
    clear hA hc6 hT1 h1 hk1
    go_wp2
    have c0 := HF2.out.cell 0; have c1 := HF2.out.cell 1
    simp at c0 c1
    refine bodyPost_ret (v := .tuple #[tmV (sizT k1) ak ck ak2 ck2, .bool true]) (by simp [results, Tryz.results48, go_sem, c0, c1]) rfl ⟨k1, true, ak, ck, ak2, ck2, ?_, ?_, ?_, .inr ⟨rfl, HOT.out⟩⟩
    · rfl
    · exact ((HT1.out.store (g := w.heap.size + 1) (fun q => by have := q.2; omega) 0 _).store (g := w.heap.size + 1) (fun q => by have := q.2; omega) 1 _).lower fun k q => .inl q.1
    · exact (HBL.out.setCell (p := ⟨w.heap.size + 1, 0, none⟩) (by simp) _).setCell (p := ⟨w.heap.size + 1, 1, none⟩) (by simp) _
  · have hne1 : ¬ (toL K).length = 1 := by rw [toL_len]; exact h1
    have HNE := hidE hne1
    clear hne1
    obtain ⟨kk, hkk⟩ : ∃ kk, x.kind = kk := ⟨_, rfl⟩
    have HKK := hidE hkk
    rw [hkk] at hkd
    clear hkk
    rcases (show kk = 0 ∨ kk = 1 ∨ kk = 2 ∨ kk = 3 ∨ kk = 4 by omega) with rfl | rfl | rfl | rfl | rfl
    ·
      have k0 := HS.out.h4.cell 0; have z4 := HS.out.h4.lt
      simp [HKK.out] at k0
      have f0 := HS.out.h1.cell 0; have f1 := HS.out.h1.cell 1; have fz := HS.out.h1.lt
      have z2 := HS.out.h2.lt; have y0 := HS.out.h2.free 0; have y1 := HS.out.h2.free 1; have j0 := HS.out.h2.cell 0; have j1 := HS.out.h2.cell 1
      simp at j0 j1
      have HF2 := hidE (putM HS.out.h2 (.slice (some ⟨b, off, none⟩) n c) (.slice (some ⟨b2, off2, none⟩) n c2))
      have HBL := hidE HS.out.bel
      have HOT := hidE (show oneT (x, K) = none from by unfold oneT; simp only [HNE.out, HKK.out]; simp)
      simp at f0 f1
      go_wp2
      have c0 := HF2.out.cell 0; have c1 := HF2.out.cell 1
      simp at c0 c1
      refine bodyPost_ret (v := .tuple #[tmV n (some ⟨b, off, none⟩) c (some ⟨b2, off2, none⟩) c2, .bool false]) (by simp [results, Tryz.results48, go_sem, c0, c1]) rfl ⟨(x, K), false, (some ⟨b, off, none⟩), c, (some ⟨b2, off2, none⟩), c2, ?_, ?_, ?_, .inl ⟨rfl, rfl, HOT.out⟩⟩
      · rw [← HN.out]
      · exact (((HT.out.cut hbb hbb2).past HBL.out).store (g := w.heap.size + 1) (fun q => by have := q.2; omega) 0 _ |>.store (g := w.heap.size + 1) (fun q => by have := q.2; omega) 1 _).lower fun k q => .inl q.1
      · exact (HBL.out.setCell (p := ⟨w.heap.size + 1, 0, none⟩) (by simp) _).setCell (p := ⟨w.heap.size + 1, 1, none⟩) (by simp) _
    ·
      have k0 := HS.out.h4.cell 0; have z4 := HS.out.h4.lt
      simp [HKK.out] at k0
      have hfc := flat9_c (fun k => lo k ∧ k < w.heap.size) 1 (toL K) a5 c5 K.len (toL_len K).symm W (by omega) HGL.out hl16 HLK.out HS.out.sl
      rw [show ((1 : Nat) : Int) = 1 from rfl] at hfc
      have HFC := hidE hfc
      clear hfc
      go_wp2_with fail
      ((with_reducible refine (HFC.out).mono ?_); rintro e W2 ⟨vm, rfl, hsm, hbm⟩)
      obtain ⟨lm, hlm⟩ : ∃ lm, lm = flatG 1 K.len (toL K) := ⟨_, rfl⟩
      rw [← hlm] at hsm
      obtain ⟨am, cm, em⟩ : ∃ am cm, vm = .slice am lm.length cm := by obtain ⟨a, c, e, _⟩ := hsm; exact ⟨a, c, e⟩
      obtain ⟨m, hml⟩ : ∃ m, m = lm.length := ⟨_, rfl⟩
      rw [← hml] at em
      subst em
      have HS' := hidE (HS.out.past hbm)
      clear HS
      clear HFC
      have HS := HS'
      clear HS' hbm
      obtain ⟨W, hW⟩ : ∃ W, W = W2 := ⟨_, rfl⟩
      rw [← hW]; rw [← hW] at HS hsm; clear hW W2
      have HLM := hidE hlm; have HML := hidE hml; have HSR := hidE hsm
      have HLZ := hidE (show sizL lm ≤ 100000 by rw [HLM.out]; have e := sizL_to K; have h := HN.out; simp only [sizT] at h; have q := flatG_sz 1 K.len K; omega)
      clear hlm hml hsm
      clear k0 z4
      have k0 := HS.out.h4.cell 0; have z4 := HS.out.h4.lt
      simp [HKK.out] at k0
      by_cases hfm : m = K.len
      · have r1 : ((m : Int) != (K.len : Int)) = false := by rw [hfm]; simp
        have HFL := hidE (show (flatG 1 (toL K).length (toL K)).length = (toL K).length by rw [toL_len, ← HLM.out, ← HML.out]; exact hfm)
        clear hfm HLM HML HSR HLZ
        have f0 := HS.out.h1.cell 0; have f1 := HS.out.h1.cell 1; have fz := HS.out.h1.lt
        have z2 := HS.out.h2.lt; have y0 := HS.out.h2.free 0; have y1 := HS.out.h2.free 1; have j0 := HS.out.h2.cell 0; have j1 := HS.out.h2.cell 1
        simp at j0 j1
        have HF2 := hidE (putM HS.out.h2 (.slice (some ⟨b, off, none⟩) n c) (.slice (some ⟨b2, off2, none⟩) n c2))
        have HBL := hidE HS.out.bel
        have HOT := hidE (show oneT (x, K) = none from by unfold oneT; simp only [HNE.out, HKK.out]; rw [HFL.out]; simp)
        simp at f0 f1
        go_wp2
        have c0 := HF2.out.cell 0; have c1 := HF2.out.cell 1
        simp at c0 c1
        refine bodyPost_ret (v := .tuple #[tmV n (some ⟨b, off, none⟩) c (some ⟨b2, off2, none⟩) c2, .bool false]) (by simp [results, Tryz.results48, go_sem, c0, c1]) rfl ⟨(x, K), false, (some ⟨b, off, none⟩), c, (some ⟨b2, off2, none⟩), c2, ?_, ?_, ?_, .inl ⟨rfl, rfl, HOT.out⟩⟩
        · rw [← HN.out]
        · exact (((HT.out.cut hbb hbb2).past HBL.out).store (g := w.heap.size + 1) (fun q => by have := q.2; omega) 0 _ |>.store (g := w.heap.size + 1) (fun q => by have := q.2; omega) 1 _).lower fun k q => .inl q.1
        · exact (HBL.out.setCell (p := ⟨w.heap.size + 1, 0, none⟩) (by simp) _).setCell (p := ⟨w.heap.size + 1, 1, none⟩) (by simp) _
      · have r1 : ((m : Int) != (K.len : Int)) = true := by simp; omega
        have HOT := hidE (show oneT (x, K) = some (x, ofL lm) by rw [HLM.out]; unfold oneT; simp only [HNE.out, HKK.out]; rw [HLM.out] at HML; have := HML.out; rw [← toL_len] at hfm ⊢; rw [← toL_len] at this; simp; intro q; omega)
        go_upto_region 8 with fail
        have e0 := HS.out.h4.cell 0; have e1 := HS.out.h4.cell 1; have e2 := HS.out.h4.cell 2; have e3 := HS.out.h4.cell 3; have e4 := HS.out.h4.cell 4; have ez := HS.out.h4.lt
        have f1 := HS.out.h1.cell 1; have fz := HS.out.h1.lt
        have g0 := (HS.out.bel.cell (p := ⟨b2, _, none⟩) hbb2).trans HQ.out; have gz := Nat.lt_of_lt_of_le hbb2 HS.out.bel.size
        simp at e0 e1 e2 e3 e4 f1
        have HOF := hidE (fun (V : World) (h : Below W.heap.size W V) => of9_c (fun k => lo k ∧ k < w.heap.size) x (K.len : Int) lm am cm m HML.out V HLZ.out hx (HSR.out.past h))
        clear k0 z4
        refine wp_region_J 7 [] (nthR [detR (prtV { x with kids := (K.len : Int) }), detR (.pointer (some ⟨w.heap.size, 1, none⟩)), detR (.slice (some ⟨b2, off2, none⟩) n c2), detR (.pointer (some ⟨b2, off2, none⟩)), detR (.int .i64 x.kids), detR (.slice am m cm), tmR W.heap.size (x, ofL lm)]) (fun _ => false) (by kernel_rfl) (by simp) (by kernel_rfl) (stab_nth (by simp [stab_det, stab_tm])) ?_ ?_ ?_
        · intro i o hi ho
          match i, hi with
          | 0, _ =>
            obtain rfl := Option.some.inj ho
            intro u x hd
            have hc := Past.cell x
            simp [go_sem, gives, frm, Act.put, nthR, detR, Region.wanted, Below.refl, hc, e0, e1, e2, e3, e4, ez]
          | 1, _ =>
            obtain rfl := Option.some.inj ho
            intro u x hd
            have hc := Past.cell x
            simp [go_sem, gives, frm, Act.put, nthR, detR, Region.wanted, Below.refl]
          | 2, _ =>
            obtain rfl := Option.some.inj ho
            intro u x hd
            have hc := Past.cell x
            have d1 := hd 1 (by decide) (by kernel_rfl)
            simp only [nthR, detR, List.getD_cons_zero, List.getD_cons_succ] at d1
            simp [go_sem, gives, frm, Act.put, nthR, detR, Region.wanted, Below.refl, hc, d1, f1, fz]
          | 3, _ =>
            obtain rfl := Option.some.inj ho
            intro u x hd
            have hc := Past.cell x
            have d2 := hd 2 (by decide) (by kernel_rfl)
            simp only [nthR, detR, List.getD_cons_zero, List.getD_cons_succ] at d2
            simp [go_sem, gives, frm, Act.put, nthR, detR, Region.wanted, Below.refl, d2, hs0]
          | 4, _ =>
            obtain rfl := Option.some.inj ho
            intro u x hd
            have hc := Past.cell x
            have d3 := hd 3 (by decide) (by kernel_rfl)
            simp only [nthR, detR, List.getD_cons_zero, List.getD_cons_succ] at d3
            simp [go_sem, gives, frm, Act.put, nthR, detR, Region.wanted, Below.refl, hc, d3, g0, gz]
          | 5, _ =>
            obtain rfl := Option.some.inj ho
            intro u x hd
            have hc := Past.cell x
            simp [go_sem, gives, frm, Act.put, nthR, detR, Region.wanted, Below.refl]
          | 6, _ =>
            obtain rfl := Option.some.inj ho
            intro u x hd
            have hc := Past.cell x
            have d0 := hd 0 (by decide) (by kernel_rfl)
            have d4 := hd 4 (by decide) (by kernel_rfl)
            have d5 := hd 5 (by decide) (by kernel_rfl)
            simp only [nthR, detR, List.getD_cons_zero, List.getD_cons_succ] at d0 d4 d5
            simp [go_sem, gives, frm, Act.put, nthR, Region.wanted, d0, d4, d5]
            have hx2 := x.2; (with_reducible refine (HOF.out _ hx2).mono ?_); rintro e w3 ⟨a3, c3, a4, c4, rfl, h3, hb3⟩; exact ⟨_, rfl, hb3, ⟨a3, c3, a4, c4, rfl, h3.lower fun k q => Nat.le_trans hx2.size q⟩⟩
          | i + 7, h => exact absurd h (by omega)
        · intro i o h; cases h
        · intro u x9 hu hne
          obtain ⟨a8, c8, a9, c9, e8, h8⟩ : tmR W.heap.size (x, ofL lm) (u 6) x9.1 := hu 6 (by decide)
          simp only [frm, List.take, Act.put, e8]
          have H8 := hidE h8; have HB9 := hidE x9.2
          have hB2 := HS.out.h2.past x9.2
          have HBL := hidE (HS.out.bel.trans (x9.2.mono HS.out.bel.size))
          have zW := HS.out.h2.lt
          obtain ⟨sz, hsz⟩ : ∃ sz, sz = sizT (x, ofL lm) := ⟨_, rfl⟩
          rw [← hsz]
          have HSZ := hidE hsz
          have z2 := hB2.lt; have y0 := hB2.free 0; have y1 := hB2.free 1; have j0 := hB2.cell 0; have j1 := hB2.cell 1
          simp at j0 j1
          have HF2 := hidE (putM hB2 (.slice a8 sz c8) (.slice a9 sz c9))
          clear hu hne e8 h8 hB2 e0 e1 e2 e3 e4 ez f1 fz g0 gz hsz
          generalize x9.1 = w9 at *
          go_wp2
          have c0 := HF2.out.cell 0; have c1 := HF2.out.cell 1
          simp at c0 c1
          refine bodyPost_ret (v := .tuple #[tmV sz a8 c8 a9 c9, .bool true]) (by simp [results, Tryz.results48, go_sem, c0, c1]) rfl ⟨(x, ofL lm), true, a8, c8, a9, c9, by rw [HSZ.out], ?_, ?_, .inr ⟨rfl, HOT.out⟩⟩
          · exact ((H8.out.store (g := w.heap.size + 1) (by omega) 0 _).store (g := w.heap.size + 1) (by omega) 1 _).lower fun k q => .inr (by omega)
          · exact (HBL.out.setCell (p := ⟨w.heap.size + 1, 0, none⟩) (by simp) _).setCell (p := ⟨w.heap.size + 1, 1, none⟩) (by simp) _
    ·
      have k0 := HS.out.h4.cell 0; have z4 := HS.out.h4.lt
      simp [HKK.out] at k0
      have f0 := HS.out.h1.cell 0; have f1 := HS.out.h1.cell 1; have fz := HS.out.h1.lt
      have z2 := HS.out.h2.lt; have y0 := HS.out.h2.free 0; have y1 := HS.out.h2.free 1; have j0 := HS.out.h2.cell 0; have j1 := HS.out.h2.cell 1
      simp at j0 j1
      have HF2 := hidE (putM HS.out.h2 (.slice (some ⟨b, off, none⟩) n c) (.slice (some ⟨b2, off2, none⟩) n c2))
      have HBL := hidE HS.out.bel
      have HOT := hidE (show oneT (x, K) = none from by unfold oneT; simp only [HNE.out, HKK.out]; simp)
      simp at f0 f1
      go_wp2
      have c0 := HF2.out.cell 0; have c1 := HF2.out.cell 1
      simp at c0 c1
      refine bodyPost_ret (v := .tuple #[tmV n (some ⟨b, off, none⟩) c (some ⟨b2, off2, none⟩) c2, .bool false]) (by simp [results, Tryz.results48, go_sem, c0, c1]) rfl ⟨(x, K), false, (some ⟨b, off, none⟩), c, (some ⟨b2, off2, none⟩), c2, ?_, ?_, ?_, .inl ⟨rfl, rfl, HOT.out⟩⟩
      · rw [← HN.out]
      · exact (((HT.out.cut hbb hbb2).past HBL.out).store (g := w.heap.size + 1) (fun q => by have := q.2; omega) 0 _ |>.store (g := w.heap.size + 1) (fun q => by have := q.2; omega) 1 _).lower fun k q => .inl q.1
      · exact (HBL.out.setCell (p := ⟨w.heap.size + 1, 0, none⟩) (by simp) _).setCell (p := ⟨w.heap.size + 1, 1, none⟩) (by simp) _
    ·
      have k0 := HS.out.h4.cell 0; have z4 := HS.out.h4.lt
      simp [HKK.out] at k0
      have hfc := flat9_c (fun k => lo k ∧ k < w.heap.size) 3 (toL K) a5 c5 K.len (toL_len K).symm W (by omega) HGL.out hl16 HLK.out HS.out.sl
      rw [show ((3 : Nat) : Int) = 3 from rfl] at hfc
      have HFC := hidE hfc
      clear hfc
      go_wp2_with fail
      ((with_reducible refine (HFC.out).mono ?_); rintro e W2 ⟨vm, rfl, hsm, hbm⟩)
      obtain ⟨lm, hlm⟩ : ∃ lm, lm = flatG 3 K.len (toL K) := ⟨_, rfl⟩
      rw [← hlm] at hsm
      obtain ⟨am, cm, em⟩ : ∃ am cm, vm = .slice am lm.length cm := by obtain ⟨a, c, e, _⟩ := hsm; exact ⟨a, c, e⟩
      obtain ⟨m, hml⟩ : ∃ m, m = lm.length := ⟨_, rfl⟩
      rw [← hml] at em
      subst em
      have HS' := hidE (HS.out.past hbm)
      clear HS
      clear HFC
      have HS := HS'
      clear HS' hbm
      obtain ⟨W, hW⟩ : ∃ W, W = W2 := ⟨_, rfl⟩
      rw [← hW]; rw [← hW] at HS hsm; clear hW W2
      have HLM := hidE hlm; have HML := hidE hml; have HSR := hidE hsm
      have HLZ := hidE (show sizL lm ≤ 100000 by rw [HLM.out]; have e := sizL_to K; have h := HN.out; simp only [sizT] at h; have q := flatG_sz 3 K.len K; omega)
      clear hlm hml hsm
      clear k0 z4
      have k0 := HS.out.h4.cell 0; have z4 := HS.out.h4.lt
      simp [HKK.out] at k0
      by_cases hfm : m = K.len
      · have r1 : ((m : Int) != (K.len : Int)) = false := by rw [hfm]; simp
        have HFL := hidE (show (flatG 3 (toL K).length (toL K)).length = (toL K).length by rw [toL_len, ← HLM.out, ← HML.out]; exact hfm)
        clear hfm HLM HML HSR HLZ
        go_upto_region 10 with fail
        clear r1
        go_wp2_with fail
        ((with_reducible refine ((once9_c (fun k => lo k ∧ k < w.heap.size) (toL K) a5 c5 K.len (toL_len K).symm _ HGL.out hl16 HS.out.sl)).mono ?_); rintro e W2 ⟨vm, rfl, hsm, hbm⟩)
        obtain ⟨lm, hlm⟩ : ∃ lm, lm = onceG [] (toL K) := ⟨_, rfl⟩
        rw [← hlm] at hsm
        obtain ⟨am, cm, em⟩ : ∃ am cm, vm = .slice am lm.length cm := by obtain ⟨a, c, e, _⟩ := hsm; exact ⟨a, c, e⟩
        obtain ⟨m, hml⟩ : ∃ m, m = lm.length := ⟨_, rfl⟩
        rw [← hml] at em
        subst em
        have HS' := hidE (HS.out.past hbm)
        clear HS
        have HS := HS'
        clear HS' hbm
        obtain ⟨W, hW⟩ : ∃ W, W = W2 := ⟨_, rfl⟩
        rw [← hW]; rw [← hW] at HS hsm; clear hW W2
        have HLM := hidE hlm; have HML := hidE hml; have HSR := hidE hsm
        have HLZ := hidE (show sizL lm ≤ 100000 by rw [HLM.out]; have e := sizL_to K; have h := HN.out; simp only [sizT] at h; have q := (onceG_siz (toL K) []).1; omega)
        clear hlm hml hsm
        clear k0 z4
        have k0 := HS.out.h4.cell 0; have z4 := HS.out.h4.lt
        simp [HKK.out] at k0
        by_cases hom : m = K.len
        · have r2 : ((m : Int) != (K.len : Int)) = false := by rw [hom]; simp
          have HON := hidE (show (onceG [] (toL K)).length = (toL K).length by rw [toL_len, ← HLM.out, ← HML.out]; exact hom)
          clear hom HLM HML HSR HLZ
          go_upto_region 14 with fail
          obtain ⟨sz, hsz⟩ : ∃ sz, sz = sizT (x, ofL (sortG (toL K))) := ⟨_, rfl⟩
          have HSZ := hidE hsz
          clear hsz
          go_cut [9] (fun v9 wx => ∃ (q9 : Nat) (a8 : Option Addr) (c8 : Nat) (a9 : Option Addr) (c9 : Nat), v9 = .pointer (some ⟨q9, 0, none⟩) ∧ Blk wx q9 #[.slice a8 sz c8, .slice a9 sz c9] 63 ∧ TmAt (fun k => W.heap.size ≤ k) wx (x, ofL (sortG (toL K))) a8 c8 a9 c9 ∧ OnS (fun k => lo k ∧ k < w.heap.size) w x K n c c2 b off b2 off2 r4 a5 c5 wx)
          case first =>
            have e0 := HS.out.h4.cell 0; have e1 := HS.out.h4.cell 1; have e2 := HS.out.h4.cell 2; have e3 := HS.out.h4.cell 3; have e4 := HS.out.h4.cell 4; have ez := HS.out.h4.lt
            have f1 := HS.out.h1.cell 1; have fz := HS.out.h1.lt
            have g0 := (HS.out.bel.cell (p := ⟨b2, _, none⟩) hbb2).trans HQ.out; have gz := Nat.lt_of_lt_of_le hbb2 HS.out.bel.size
            simp at e0 e1 e2 e3 e4 f1
            have HSO := hidE (fun (V : World) (h : Below W.heap.size W V) => sorted9_c (fun k => lo k ∧ k < w.heap.size) (toL K) a5 c5 K.len (toL_len K).symm V HGL.out hl16 (HS.out.sl.past h))
            have HOF := hidE (fun (V : World) (am : Option Addr) (cm : Nat) (h : SliM (fun k => lo k ∧ k < w.heap.size) V (.slice am (sortG (toL K)).length cm) (sortG (toL K))) => of9_c (fun k => lo k ∧ k < w.heap.size) x (K.len : Int) (sortG (toL K)) am cm (sortG (toL K)).length rfl V (by rw [(sortG_siz _).1]; have e := sizL_to K; have h := HN.out; simp only [sizT] at h; omega) hx h)
            clear k0 z4
            refine wp_region_J 9 [] (nthR [detR (prtV { x with kids := (K.len : Int) }), detR (.pointer (some ⟨w.heap.size, 1, none⟩)), detR (.slice (some ⟨b2, off2, none⟩) n c2), detR (.pointer (some ⟨b2, off2, none⟩)), detR (.int .i64 x.kids), detR (.slice a5 K.len c5), sliMR (fun k => lo k ∧ k < w.heap.size) (sortG (toL K)), tmR W.heap.size (x, ofL (sortG (toL K))), newR W.heap.size #[.slice none 0 0, .slice none 0 0] 63]) (fun _ => false) (by kernel_rfl) (by simp) (by kernel_rfl) (stab_nth (by simp [stab_det, stab_new, stab_tm, stab_sliM])) ?_ ?_ ?_
            · intro i o hi ho
              match i, hi with
              | 0, _ =>
                obtain rfl := Option.some.inj ho
                intro u x hd
                have hc := Past.cell x
                simp [go_sem, gives, frm, Act.put, nthR, detR, Region.wanted, Below.refl, hc, e0, e1, e2, e3, e4, ez]
              | 1, _ =>
                obtain rfl := Option.some.inj ho
                intro u x hd
                have hc := Past.cell x
                simp [go_sem, gives, frm, Act.put, nthR, detR, Region.wanted, Below.refl]
              | 2, _ =>
                obtain rfl := Option.some.inj ho
                intro u x hd
                have hc := Past.cell x
                have d1 := hd 1 (by decide) (by kernel_rfl)
                simp only [nthR, detR, List.getD_cons_zero, List.getD_cons_succ] at d1
                simp [go_sem, gives, frm, Act.put, nthR, detR, Region.wanted, Below.refl, hc, d1, f1, fz]
              | 3, _ =>
                obtain rfl := Option.some.inj ho
                intro u x hd
                have hc := Past.cell x
                have d2 := hd 2 (by decide) (by kernel_rfl)
                simp only [nthR, detR, List.getD_cons_zero, List.getD_cons_succ] at d2
                simp [go_sem, gives, frm, Act.put, nthR, detR, Region.wanted, Below.refl, d2, hs0]
              | 4, _ =>
                obtain rfl := Option.some.inj ho
                intro u x hd
                have hc := Past.cell x
                have d3 := hd 3 (by decide) (by kernel_rfl)
                simp only [nthR, detR, List.getD_cons_zero, List.getD_cons_succ] at d3
                simp [go_sem, gives, frm, Act.put, nthR, detR, Region.wanted, Below.refl, hc, d3, g0, gz]
              | 5, _ =>
                obtain rfl := Option.some.inj ho
                intro u x hd
                have hc := Past.cell x
                simp [go_sem, gives, frm, Act.put, nthR, detR, Region.wanted, Below.refl]
              | 6, _ =>
                obtain rfl := Option.some.inj ho
                intro u x hd
                have hc := Past.cell x
                have d5 := hd 5 (by decide) (by kernel_rfl)
                simp only [nthR, detR, List.getD_cons_zero, List.getD_cons_succ] at d5
                simp [go_sem, gives, frm, Act.put, nthR, Region.wanted, d5]
                have hx2 := x.2; (with_reducible refine (HSO.out _ hx2).mono ?_); rintro e w3 ⟨v, rfl, h3, hb3⟩; exact ⟨_, rfl, hb3, h3⟩
              | 7, _ =>
                obtain rfl := Option.some.inj ho
                intro u x hd
                have hc := Past.cell x
                have d0 := hd 0 (by decide) (by kernel_rfl)
                have d4 := hd 4 (by decide) (by kernel_rfl)
                simp only [nthR, detR, List.getD_cons_zero, List.getD_cons_succ] at d0 d4
                simp [go_sem, gives, frm, Act.put, nthR, Region.wanted, d0, d4]
                have hx2 := x.2; have h6 : SliM (fun k => lo k ∧ k < w.heap.size) x.1 (u 6) (sortG (toL K)) := hd 6 (by decide) (by kernel_rfl); obtain ⟨am, cm, em⟩ : ∃ am cm, u 6 = .slice am (sortG (toL K)).length cm := (by obtain ⟨a, c, e, _⟩ := h6; exact ⟨a, c, e⟩); rw [em] at h6 ⊢; (with_reducible refine (HOF.out _ _ _ h6).mono ?_); rintro e w3 ⟨a3, c3, a4, c4, rfl, h3, hb3⟩; exact ⟨_, rfl, hb3, ⟨a3, c3, a4, c4, rfl, h3.lower fun k q => Nat.le_trans hx2.size q⟩⟩
              | 8, _ =>
                obtain rfl := Option.some.inj ho
                intro u x hd
                have hc := Past.cell x
                simp [go_sem, gives, nthR, Region.wanted]
                exact ⟨by (repeat (first | exact Below.refl _ _ | assumption | refine balloc ?_ _ | refine below_drewN ?_ _ | refine bstep (by assumption) ?_ | refine bstep (Past.prop _) ?_ | refine Below.setCell ?_ (by first | exact Nat.le_refl _ | (simp; done) | (simp; omega)) _)), ⟨_, rfl, by simpa using x.2.size, Blk.made _ _ _⟩⟩
              | i + 9, h => exact absurd h (by omega)
            · intro i o h; cases h
            · intro u x9 hu hne
              obtain ⟨a8, c8, a9, c9, e8, h8⟩ : tmR W.heap.size (x, ofL (sortG (toL K))) (u 7) x9.1 := hu 7 (by decide)
              obtain ⟨q9, e9, q9z, B9⟩ : newR W.heap.size #[.slice none 0 0, .slice none 0 0] 63 (u 8) x9.1 := hu 8 (by decide)
              simp only [frm, List.take, Act.put, e8, e9]
              rw [← HSZ.out]
              have H8 := hidE h8; have HB9 := hidE x9.2; have B9' := hidE B9
              have z9 := B9.lt; have y0 := B9.free 0; have y1 := B9.free 1; have j0 := B9.cell 0; have j1 := B9.cell 1
              simp at j0 j1
              have HF2 := hidE (putM B9 (.slice a8 sz c8) (.slice a9 sz c9))
              clear hu hne e8 e9 h8 B9 e0 e1 e2 e3 e4 ez f1 fz g0 gz
              generalize x9.1 = w9 at *
              go_wp2
              go_meet
              case rel =>
                refine ⟨q9, a8, c8, a9, c9, rfl, HF2.out, ?_, ?_⟩
                · exact (H8.out.put B9'.out (by simp) 0 _).put (B9'.out.set 0 _) (by simp) 1 _
                · exact HS.out.past ((HB9.out.setCell (p := ⟨q9, 0, none⟩) q9z _).setCell (p := ⟨q9, 1, none⟩) q9z _)
          case rest =>
          obtain ⟨q9, a8, c8, a9, c9, rfl, hB9, hT9, hS9⟩ := hcut
          have HWZ := hidE (show w.heap.size + 2 ≤ W.heap.size from by have := HS.out.h2.lt; omega)
          obtain ⟨W3, hW3⟩ : ∃ W3, W3 = wc := ⟨_, rfl⟩
          rw [← hW3]; rw [← hW3] at hB9 hT9 hS9; clear hW3
          clear k0 z4 HS
          have HS := hidE hS9; have HT9 := hidE hT9; have HB9 := hidE hB9
          clear hS9 hT9 hB9
          have HCN := hidE (fun (V : World) (h : Below W3.heap.size W3 V) => text9_c (fun k => W.heap.size ≤ k) (x, ofL (sortG (toL K))) a8 c8 a9 c9 sz HSZ.out V (fitT_gd (fitT_sort HFT.out)) (by have h := HN.out; simp only [sizT] at h ⊢; rw [sizL_of, (sortG_siz _).1, sizL_to]; omega) (HT9.out.past h))
          have HCT := hidE (fun (V : World) (h : Below W3.heap.size W3 V) => text9_c (fun k => lo k ∧ k < w.heap.size) (x, K) (some ⟨b, off, none⟩) c (some ⟨b2, off2, none⟩) c2 n HN.out V HGD.out (by rw [← HN.out]; omega) ((HT.out.cut hbb hbb2).past (HS.out.bel.trans (h.mono HS.out.bel.size))))
          have f0 := HS.out.h1.cell 0; have f1 := HS.out.h1.cell 1; have fz := HS.out.h1.lt; have g0 := HB9.out.cell 0; have g1 := HB9.out.cell 1; have gz := HB9.out.lt
          simp at f0 f1 g0 g1
          obtain ⟨nb, hnb⟩ : ∃ nb, (!(tx9 (x, ofL (sortG (toL K))) == tx9 (x, K))) = nb := ⟨_, rfl⟩
          have HNB := hidE hnb
          go_upto_region 15 with fail
          refine wp_region_past_lit (by kernel_rfl) (by kernel_rfl) ?_
          have hcp := Past.cell (W := W3)
          repeat (go_big_quiet_step ((go_at_call 69; first | exact Past.call _ (HCN.out _ (Past.prop _)) | exact Past.call _ (HCT.out _ (Past.prop _)))))
          refine wpQuiet_nil ?_
          rintro _ ⟨x', rfl⟩
          have HS2 := hidE (HS.out.past x'.2); have HB2 := hidE (HB9.out.past x'.2); have HT2 := hidE (HT9.out.past x'.2)
          clear hcp f0 f1 fz g0 g1 gz HS HB9 HT9 HCN HCT
          try rw [hnb]
          clear hnb
          have HS := HS2
          clear HS2
          generalize x'.1 = W4 at *
          cases nb with
          | false =>
            have HTX := hidE (HST.out.1 (by simpa using HNB.out))
            have f0 := HS.out.h1.cell 0; have f1 := HS.out.h1.cell 1; have fz := HS.out.h1.lt
            have z2 := HS.out.h2.lt; have y0 := HS.out.h2.free 0; have y1 := HS.out.h2.free 1; have j0 := HS.out.h2.cell 0; have j1 := HS.out.h2.cell 1
            simp at j0 j1
            have HF2 := hidE (putM HS.out.h2 (.slice (some ⟨b, off, none⟩) n c) (.slice (some ⟨b2, off2, none⟩) n c2))
            have HBL := hidE HS.out.bel
            have HOT := hidE (show oneT (x, K) = none from by unfold oneT; simp only [HNE.out, HKK.out]; rw [HFL.out, HON.out]; rw [← HTX.out]; simp)
            simp at f0 f1
            go_wp2
            have c0 := HF2.out.cell 0; have c1 := HF2.out.cell 1
            simp at c0 c1
            refine bodyPost_ret (v := .tuple #[tmV n (some ⟨b, off, none⟩) c (some ⟨b2, off2, none⟩) c2, .bool false]) (by simp [results, Tryz.results48, go_sem, c0, c1]) rfl ⟨(x, K), false, (some ⟨b, off, none⟩), c, (some ⟨b2, off2, none⟩), c2, ?_, ?_, ?_, .inl ⟨rfl, rfl, HOT.out⟩⟩
            · rw [← HN.out]
            · exact (((HT.out.cut hbb hbb2).past HBL.out).store (g := w.heap.size + 1) (fun q => by have := q.2; omega) 0 _ |>.store (g := w.heap.size + 1) (fun q => by have := q.2; omega) 1 _).lower fun k q => .inl q.1
            · exact (HBL.out.setCell (p := ⟨w.heap.size + 1, 0, none⟩) (by simp) _).setCell (p := ⟨w.heap.size + 1, 1, none⟩) (by simp) _
          | true =>
            have HTX := hidE (fun h => (by simpa using HNB.out : ¬ _) (HST.out.2 h))
            have HOT := hidE (show oneT (x, K) = some (x, ofL (sortG (toL K))) by unfold oneT; simp only [HNE.out, HKK.out]; rw [HFL.out, HON.out]; simp; exact HTX.out)
            have z2 := HS.out.h2.lt; have y0 := HS.out.h2.free 0; have y1 := HS.out.h2.free 1; have j0 := HS.out.h2.cell 0; have j1 := HS.out.h2.cell 1
            have g0 := HB2.out.cell 0; have g1 := HB2.out.cell 1; have gz := HB2.out.lt
            simp at j0 j1 g0 g1
            have HF2 := hidE (putM HS.out.h2 (.slice a8 sz c8) (.slice a9 sz c9))
            have HBL := hidE HS.out.bel
            go_wp2
            have c0 := HF2.out.cell 0; have c1 := HF2.out.cell 1
            simp at c0 c1
            refine bodyPost_ret (v := .tuple #[tmV sz a8 c8 a9 c9, .bool true]) (by simp [results, Tryz.results48, go_sem, c0, c1]) rfl ⟨(x, ofL (sortG (toL K))), true, a8, c8, a9, c9, by rw [HSZ.out], ?_, ?_, .inr ⟨rfl, HOT.out⟩⟩
            · have hwz := HWZ.out; exact ((HT2.out.store (g := w.heap.size + 1) (by omega) 0 _).store (g := w.heap.size + 1) (by omega) 1 _).lower fun k q => .inr (by omega)
            · exact (HBL.out.setCell (p := ⟨w.heap.size + 1, 0, none⟩) (by simp) _).setCell (p := ⟨w.heap.size + 1, 1, none⟩) (by simp) _
        · have r2 : ((m : Int) != (K.len : Int)) = true := by simp; omega
          have HOT := hidE (show oneT (x, K) = some (x, ofL lm) by rw [HLM.out]; unfold oneT; simp only [HNE.out, HKK.out]; rw [HFL.out]; rw [HLM.out] at HML; have := HML.out; rw [← toL_len] at hom; simp; intro q; omega)
          go_upto_region 12 with fail
          have e0 := HS.out.h4.cell 0; have e1 := HS.out.h4.cell 1; have e2 := HS.out.h4.cell 2; have e3 := HS.out.h4.cell 3; have e4 := HS.out.h4.cell 4; have ez := HS.out.h4.lt
          have f1 := HS.out.h1.cell 1; have fz := HS.out.h1.lt
          have g0 := (HS.out.bel.cell (p := ⟨b2, _, none⟩) hbb2).trans HQ.out; have gz := Nat.lt_of_lt_of_le hbb2 HS.out.bel.size
          simp at e0 e1 e2 e3 e4 f1
          have HOF := hidE (fun (V : World) (h : Below W.heap.size W V) => of9_c (fun k => lo k ∧ k < w.heap.size) x (K.len : Int) lm am cm m HML.out V HLZ.out hx (HSR.out.past h))
          clear k0 z4
          refine wp_region_J 7 [] (nthR [detR (prtV { x with kids := (K.len : Int) }), detR (.pointer (some ⟨w.heap.size, 1, none⟩)), detR (.slice (some ⟨b2, off2, none⟩) n c2), detR (.pointer (some ⟨b2, off2, none⟩)), detR (.int .i64 x.kids), detR (.slice am m cm), tmR W.heap.size (x, ofL lm)]) (fun _ => false) (by kernel_rfl) (by simp) (by kernel_rfl) (stab_nth (by simp [stab_det, stab_tm])) ?_ ?_ ?_
          · intro i o hi ho
            match i, hi with
            | 0, _ =>
              obtain rfl := Option.some.inj ho
              intro u x hd
              have hc := Past.cell x
              simp [go_sem, gives, frm, Act.put, nthR, detR, Region.wanted, Below.refl, hc, e0, e1, e2, e3, e4, ez]
            | 1, _ =>
              obtain rfl := Option.some.inj ho
              intro u x hd
              have hc := Past.cell x
              simp [go_sem, gives, frm, Act.put, nthR, detR, Region.wanted, Below.refl]
            | 2, _ =>
              obtain rfl := Option.some.inj ho
              intro u x hd
              have hc := Past.cell x
              have d1 := hd 1 (by decide) (by kernel_rfl)
              simp only [nthR, detR, List.getD_cons_zero, List.getD_cons_succ] at d1
              simp [go_sem, gives, frm, Act.put, nthR, detR, Region.wanted, Below.refl, hc, d1, f1, fz]
            | 3, _ =>
              obtain rfl := Option.some.inj ho
              intro u x hd
              have hc := Past.cell x
              have d2 := hd 2 (by decide) (by kernel_rfl)
              simp only [nthR, detR, List.getD_cons_zero, List.getD_cons_succ] at d2
              simp [go_sem, gives, frm, Act.put, nthR, detR, Region.wanted, Below.refl, d2, hs0]
            | 4, _ =>
              obtain rfl := Option.some.inj ho
              intro u x hd
              have hc := Past.cell x
              have d3 := hd 3 (by decide) (by kernel_rfl)
              simp only [nthR, detR, List.getD_cons_zero, List.getD_cons_succ] at d3
              simp [go_sem, gives, frm, Act.put, nthR, detR, Region.wanted, Below.refl, hc, d3, g0, gz]
            | 5, _ =>
              obtain rfl := Option.some.inj ho
              intro u x hd
              have hc := Past.cell x
              simp [go_sem, gives, frm, Act.put, nthR, detR, Region.wanted, Below.refl]
            | 6, _ =>
              obtain rfl := Option.some.inj ho
              intro u x hd
              have hc := Past.cell x
              have d0 := hd 0 (by decide) (by kernel_rfl)
              have d4 := hd 4 (by decide) (by kernel_rfl)
              have d5 := hd 5 (by decide) (by kernel_rfl)
              simp only [nthR, detR, List.getD_cons_zero, List.getD_cons_succ] at d0 d4 d5
              simp [go_sem, gives, frm, Act.put, nthR, Region.wanted, d0, d4, d5]
              have hx2 := x.2; (with_reducible refine (HOF.out _ hx2).mono ?_); rintro e w3 ⟨a3, c3, a4, c4, rfl, h3, hb3⟩; exact ⟨_, rfl, hb3, ⟨a3, c3, a4, c4, rfl, h3.lower fun k q => Nat.le_trans hx2.size q⟩⟩
            | i + 7, h => exact absurd h (by omega)
          · intro i o h; cases h
          · intro u x9 hu hne
            obtain ⟨a8, c8, a9, c9, e8, h8⟩ : tmR W.heap.size (x, ofL lm) (u 6) x9.1 := hu 6 (by decide)
            simp only [frm, List.take, Act.put, e8]
            have H8 := hidE h8; have HB9 := hidE x9.2
            have hB2 := HS.out.h2.past x9.2
            have HBL := hidE (HS.out.bel.trans (x9.2.mono HS.out.bel.size))
            have zW := HS.out.h2.lt
            obtain ⟨sz, hsz⟩ : ∃ sz, sz = sizT (x, ofL lm) := ⟨_, rfl⟩
            rw [← hsz]
            have HSZ := hidE hsz
            have z2 := hB2.lt; have y0 := hB2.free 0; have y1 := hB2.free 1; have j0 := hB2.cell 0; have j1 := hB2.cell 1
            simp at j0 j1
            have HF2 := hidE (putM hB2 (.slice a8 sz c8) (.slice a9 sz c9))
            clear hu hne e8 h8 hB2 e0 e1 e2 e3 e4 ez f1 fz g0 gz hsz
            generalize x9.1 = w9 at *
            go_wp2
            have c0 := HF2.out.cell 0; have c1 := HF2.out.cell 1
            simp at c0 c1
            refine bodyPost_ret (v := .tuple #[tmV sz a8 c8 a9 c9, .bool true]) (by simp [results, Tryz.results48, go_sem, c0, c1]) rfl ⟨(x, ofL lm), true, a8, c8, a9, c9, by rw [HSZ.out], ?_, ?_, .inr ⟨rfl, HOT.out⟩⟩
            · exact ((H8.out.store (g := w.heap.size + 1) (by omega) 0 _).store (g := w.heap.size + 1) (by omega) 1 _).lower fun k q => .inr (by omega)
            · exact (HBL.out.setCell (p := ⟨w.heap.size + 1, 0, none⟩) (by simp) _).setCell (p := ⟨w.heap.size + 1, 1, none⟩) (by simp) _
      · have r1 : ((m : Int) != (K.len : Int)) = true := by simp; omega
        have HOT := hidE (show oneT (x, K) = some (x, ofL lm) by rw [HLM.out]; unfold oneT; simp only [HNE.out, HKK.out]; rw [HLM.out] at HML; have := HML.out; rw [← toL_len] at hfm ⊢; rw [← toL_len] at this; simp; intro q; omega)
        go_upto_region 8 with fail
        have e0 := HS.out.h4.cell 0; have e1 := HS.out.h4.cell 1; have e2 := HS.out.h4.cell 2; have e3 := HS.out.h4.cell 3; have e4 := HS.out.h4.cell 4; have ez := HS.out.h4.lt
        have f1 := HS.out.h1.cell 1; have fz := HS.out.h1.lt
        have g0 := (HS.out.bel.cell (p := ⟨b2, _, none⟩) hbb2).trans HQ.out; have gz := Nat.lt_of_lt_of_le hbb2 HS.out.bel.size
        simp at e0 e1 e2 e3 e4 f1
        have HOF := hidE (fun (V : World) (h : Below W.heap.size W V) => of9_c (fun k => lo k ∧ k < w.heap.size) x (K.len : Int) lm am cm m HML.out V HLZ.out hx (HSR.out.past h))
        clear k0 z4
        refine wp_region_J 7 [] (nthR [detR (prtV { x with kids := (K.len : Int) }), detR (.pointer (some ⟨w.heap.size, 1, none⟩)), detR (.slice (some ⟨b2, off2, none⟩) n c2), detR (.pointer (some ⟨b2, off2, none⟩)), detR (.int .i64 x.kids), detR (.slice am m cm), tmR W.heap.size (x, ofL lm)]) (fun _ => false) (by kernel_rfl) (by simp) (by kernel_rfl) (stab_nth (by simp [stab_det, stab_tm])) ?_ ?_ ?_
        · intro i o hi ho
          match i, hi with
          | 0, _ =>
            obtain rfl := Option.some.inj ho
            intro u x hd
            have hc := Past.cell x
            simp [go_sem, gives, frm, Act.put, nthR, detR, Region.wanted, Below.refl, hc, e0, e1, e2, e3, e4, ez]
          | 1, _ =>
            obtain rfl := Option.some.inj ho
            intro u x hd
            have hc := Past.cell x
            simp [go_sem, gives, frm, Act.put, nthR, detR, Region.wanted, Below.refl]
          | 2, _ =>
            obtain rfl := Option.some.inj ho
            intro u x hd
            have hc := Past.cell x
            have d1 := hd 1 (by decide) (by kernel_rfl)
            simp only [nthR, detR, List.getD_cons_zero, List.getD_cons_succ] at d1
            simp [go_sem, gives, frm, Act.put, nthR, detR, Region.wanted, Below.refl, hc, d1, f1, fz]
          | 3, _ =>
            obtain rfl := Option.some.inj ho
            intro u x hd
            have hc := Past.cell x
            have d2 := hd 2 (by decide) (by kernel_rfl)
            simp only [nthR, detR, List.getD_cons_zero, List.getD_cons_succ] at d2
            simp [go_sem, gives, frm, Act.put, nthR, detR, Region.wanted, Below.refl, d2, hs0]
          | 4, _ =>
            obtain rfl := Option.some.inj ho
            intro u x hd
            have hc := Past.cell x
            have d3 := hd 3 (by decide) (by kernel_rfl)
            simp only [nthR, detR, List.getD_cons_zero, List.getD_cons_succ] at d3
            simp [go_sem, gives, frm, Act.put, nthR, detR, Region.wanted, Below.refl, hc, d3, g0, gz]
          | 5, _ =>
            obtain rfl := Option.some.inj ho
            intro u x hd
            have hc := Past.cell x
            simp [go_sem, gives, frm, Act.put, nthR, detR, Region.wanted, Below.refl]
          | 6, _ =>
            obtain rfl := Option.some.inj ho
            intro u x hd
            have hc := Past.cell x
            have d0 := hd 0 (by decide) (by kernel_rfl)
            have d4 := hd 4 (by decide) (by kernel_rfl)
            have d5 := hd 5 (by decide) (by kernel_rfl)
            simp only [nthR, detR, List.getD_cons_zero, List.getD_cons_succ] at d0 d4 d5
            simp [go_sem, gives, frm, Act.put, nthR, Region.wanted, d0, d4, d5]
            have hx2 := x.2; (with_reducible refine (HOF.out _ hx2).mono ?_); rintro e w3 ⟨a3, c3, a4, c4, rfl, h3, hb3⟩; exact ⟨_, rfl, hb3, ⟨a3, c3, a4, c4, rfl, h3.lower fun k q => Nat.le_trans hx2.size q⟩⟩
          | i + 7, h => exact absurd h (by omega)
        · intro i o h; cases h
        · intro u x9 hu hne
          obtain ⟨a8, c8, a9, c9, e8, h8⟩ : tmR W.heap.size (x, ofL lm) (u 6) x9.1 := hu 6 (by decide)
          simp only [frm, List.take, Act.put, e8]
          have H8 := hidE h8; have HB9 := hidE x9.2
          have hB2 := HS.out.h2.past x9.2
          have HBL := hidE (HS.out.bel.trans (x9.2.mono HS.out.bel.size))
          have zW := HS.out.h2.lt
          obtain ⟨sz, hsz⟩ : ∃ sz, sz = sizT (x, ofL lm) := ⟨_, rfl⟩
          rw [← hsz]
          have HSZ := hidE hsz
          have z2 := hB2.lt; have y0 := hB2.free 0; have y1 := hB2.free 1; have j0 := hB2.cell 0; have j1 := hB2.cell 1
          simp at j0 j1
          have HF2 := hidE (putM hB2 (.slice a8 sz c8) (.slice a9 sz c9))
          clear hu hne e8 h8 hB2 e0 e1 e2 e3 e4 ez f1 fz g0 gz hsz
          generalize x9.1 = w9 at *
          go_wp2
          have c0 := HF2.out.cell 0; have c1 := HF2.out.cell 1
          simp at c0 c1
          refine bodyPost_ret (v := .tuple #[tmV sz a8 c8 a9 c9, .bool true]) (by simp [results, Tryz.results48, go_sem, c0, c1]) rfl ⟨(x, ofL lm), true, a8, c8, a9, c9, by rw [HSZ.out], ?_, ?_, .inr ⟨rfl, HOT.out⟩⟩
          · exact ((H8.out.store (g := w.heap.size + 1) (by omega) 0 _).store (g := w.heap.size + 1) (by omega) 1 _).lower fun k q => .inr (by omega)
          · exact (HBL.out.setCell (p := ⟨w.heap.size + 1, 0, none⟩) (by simp) _).setCell (p := ⟨w.heap.size + 1, 1, none⟩) (by simp) _
    ·
      have k0 := HS.out.h4.cell 0; have z4 := HS.out.h4.lt
      simp [HKK.out] at k0
      have hfc := flat9_c (fun k => lo k ∧ k < w.heap.size) 4 (toL K) a5 c5 K.len (toL_len K).symm W (by omega) HGL.out hl16 HLK.out HS.out.sl
      rw [show ((4 : Nat) : Int) = 4 from rfl] at hfc
      have HFC := hidE hfc
      clear hfc
      go_wp2_with fail
      ((with_reducible refine (HFC.out).mono ?_); rintro e W2 ⟨vm, rfl, hsm, hbm⟩)
      obtain ⟨lm, hlm⟩ : ∃ lm, lm = flatG 4 K.len (toL K) := ⟨_, rfl⟩
      rw [← hlm] at hsm
      obtain ⟨am, cm, em⟩ : ∃ am cm, vm = .slice am lm.length cm := by obtain ⟨a, c, e, _⟩ := hsm; exact ⟨a, c, e⟩
      obtain ⟨m, hml⟩ : ∃ m, m = lm.length := ⟨_, rfl⟩
      rw [← hml] at em
      subst em
      have HS' := hidE (HS.out.past hbm)
      clear HS
      clear HFC
      have HS := HS'
      clear HS' hbm
      obtain ⟨W, hW⟩ : ∃ W, W = W2 := ⟨_, rfl⟩
      rw [← hW]; rw [← hW] at HS hsm; clear hW W2
      have HLM := hidE hlm; have HML := hidE hml; have HSR := hidE hsm
      have HLZ := hidE (show sizL lm ≤ 100000 by rw [HLM.out]; have e := sizL_to K; have h := HN.out; simp only [sizT] at h; have q := flatG_sz 4 K.len K; omega)
      clear hlm hml hsm
      clear k0 z4
      have k0 := HS.out.h4.cell 0; have z4 := HS.out.h4.lt
      simp [HKK.out] at k0
      by_cases hfm : m = K.len
      · have r1 : ((m : Int) != (K.len : Int)) = false := by rw [hfm]; simp
        have HFL := hidE (show (flatG 4 (toL K).length (toL K)).length = (toL K).length by rw [toL_len, ← HLM.out, ← HML.out]; exact hfm)
        clear hfm HLM HML HSR HLZ
        go_upto_region 14 with fail
        obtain ⟨sz, hsz⟩ : ∃ sz, sz = sizT (x, ofL (sortG (toL K))) := ⟨_, rfl⟩
        have HSZ := hidE hsz
        clear hsz
        go_cut [9] (fun v9 wx => ∃ (q9 : Nat) (a8 : Option Addr) (c8 : Nat) (a9 : Option Addr) (c9 : Nat), v9 = .pointer (some ⟨q9, 0, none⟩) ∧ Blk wx q9 #[.slice a8 sz c8, .slice a9 sz c9] 63 ∧ TmAt (fun k => W.heap.size ≤ k) wx (x, ofL (sortG (toL K))) a8 c8 a9 c9 ∧ OnS (fun k => lo k ∧ k < w.heap.size) w x K n c c2 b off b2 off2 r4 a5 c5 wx)
        case first =>
          have e0 := HS.out.h4.cell 0; have e1 := HS.out.h4.cell 1; have e2 := HS.out.h4.cell 2; have e3 := HS.out.h4.cell 3; have e4 := HS.out.h4.cell 4; have ez := HS.out.h4.lt
          have f1 := HS.out.h1.cell 1; have fz := HS.out.h1.lt
          have g0 := (HS.out.bel.cell (p := ⟨b2, _, none⟩) hbb2).trans HQ.out; have gz := Nat.lt_of_lt_of_le hbb2 HS.out.bel.size
          simp at e0 e1 e2 e3 e4 f1
          have HSO := hidE (fun (V : World) (h : Below W.heap.size W V) => sorted9_c (fun k => lo k ∧ k < w.heap.size) (toL K) a5 c5 K.len (toL_len K).symm V HGL.out hl16 (HS.out.sl.past h))
          have HOF := hidE (fun (V : World) (am : Option Addr) (cm : Nat) (h : SliM (fun k => lo k ∧ k < w.heap.size) V (.slice am (sortG (toL K)).length cm) (sortG (toL K))) => of9_c (fun k => lo k ∧ k < w.heap.size) x (K.len : Int) (sortG (toL K)) am cm (sortG (toL K)).length rfl V (by rw [(sortG_siz _).1]; have e := sizL_to K; have h := HN.out; simp only [sizT] at h; omega) hx h)
          clear k0 z4
          refine wp_region_J 9 [] (nthR [detR (prtV { x with kids := (K.len : Int) }), detR (.pointer (some ⟨w.heap.size, 1, none⟩)), detR (.slice (some ⟨b2, off2, none⟩) n c2), detR (.pointer (some ⟨b2, off2, none⟩)), detR (.int .i64 x.kids), detR (.slice a5 K.len c5), sliMR (fun k => lo k ∧ k < w.heap.size) (sortG (toL K)), tmR W.heap.size (x, ofL (sortG (toL K))), newR W.heap.size #[.slice none 0 0, .slice none 0 0] 63]) (fun _ => false) (by kernel_rfl) (by simp) (by kernel_rfl) (stab_nth (by simp [stab_det, stab_new, stab_tm, stab_sliM])) ?_ ?_ ?_
          · intro i o hi ho
            match i, hi with
            | 0, _ =>
              obtain rfl := Option.some.inj ho
              intro u x hd
              have hc := Past.cell x
              simp [go_sem, gives, frm, Act.put, nthR, detR, Region.wanted, Below.refl, hc, e0, e1, e2, e3, e4, ez]
            | 1, _ =>
              obtain rfl := Option.some.inj ho
              intro u x hd
              have hc := Past.cell x
              simp [go_sem, gives, frm, Act.put, nthR, detR, Region.wanted, Below.refl]
            | 2, _ =>
              obtain rfl := Option.some.inj ho
              intro u x hd
              have hc := Past.cell x
              have d1 := hd 1 (by decide) (by kernel_rfl)
              simp only [nthR, detR, List.getD_cons_zero, List.getD_cons_succ] at d1
              simp [go_sem, gives, frm, Act.put, nthR, detR, Region.wanted, Below.refl, hc, d1, f1, fz]
            | 3, _ =>
              obtain rfl := Option.some.inj ho
              intro u x hd
              have hc := Past.cell x
              have d2 := hd 2 (by decide) (by kernel_rfl)
              simp only [nthR, detR, List.getD_cons_zero, List.getD_cons_succ] at d2
              simp [go_sem, gives, frm, Act.put, nthR, detR, Region.wanted, Below.refl, d2, hs0]
            | 4, _ =>
              obtain rfl := Option.some.inj ho
              intro u x hd
              have hc := Past.cell x
              have d3 := hd 3 (by decide) (by kernel_rfl)
              simp only [nthR, detR, List.getD_cons_zero, List.getD_cons_succ] at d3
              simp [go_sem, gives, frm, Act.put, nthR, detR, Region.wanted, Below.refl, hc, d3, g0, gz]
            | 5, _ =>
              obtain rfl := Option.some.inj ho
              intro u x hd
              have hc := Past.cell x
              simp [go_sem, gives, frm, Act.put, nthR, detR, Region.wanted, Below.refl]
            | 6, _ =>
              obtain rfl := Option.some.inj ho
              intro u x hd
              have hc := Past.cell x
              have d5 := hd 5 (by decide) (by kernel_rfl)
              simp only [nthR, detR, List.getD_cons_zero, List.getD_cons_succ] at d5
              simp [go_sem, gives, frm, Act.put, nthR, Region.wanted, d5]
              have hx2 := x.2; (with_reducible refine (HSO.out _ hx2).mono ?_); rintro e w3 ⟨v, rfl, h3, hb3⟩; exact ⟨_, rfl, hb3, h3⟩
            | 7, _ =>
              obtain rfl := Option.some.inj ho
              intro u x hd
              have hc := Past.cell x
              have d0 := hd 0 (by decide) (by kernel_rfl)
              have d4 := hd 4 (by decide) (by kernel_rfl)
              simp only [nthR, detR, List.getD_cons_zero, List.getD_cons_succ] at d0 d4
              simp [go_sem, gives, frm, Act.put, nthR, Region.wanted, d0, d4]
              have hx2 := x.2; have h6 : SliM (fun k => lo k ∧ k < w.heap.size) x.1 (u 6) (sortG (toL K)) := hd 6 (by decide) (by kernel_rfl); obtain ⟨am, cm, em⟩ : ∃ am cm, u 6 = .slice am (sortG (toL K)).length cm := (by obtain ⟨a, c, e, _⟩ := h6; exact ⟨a, c, e⟩); rw [em] at h6 ⊢; (with_reducible refine (HOF.out _ _ _ h6).mono ?_); rintro e w3 ⟨a3, c3, a4, c4, rfl, h3, hb3⟩; exact ⟨_, rfl, hb3, ⟨a3, c3, a4, c4, rfl, h3.lower fun k q => Nat.le_trans hx2.size q⟩⟩
            | 8, _ =>
              obtain rfl := Option.some.inj ho
              intro u x hd
              have hc := Past.cell x
              simp [go_sem, gives, nthR, Region.wanted]
              exact ⟨by (repeat (first | exact Below.refl _ _ | assumption | refine balloc ?_ _ | refine below_drewN ?_ _ | refine bstep (by assumption) ?_ | refine bstep (Past.prop _) ?_ | refine Below.setCell ?_ (by first | exact Nat.le_refl _ | (simp; done) | (simp; omega)) _)), ⟨_, rfl, by simpa using x.2.size, Blk.made _ _ _⟩⟩
            | i + 9, h => exact absurd h (by omega)
          · intro i o h; cases h
          · intro u x9 hu hne
            obtain ⟨a8, c8, a9, c9, e8, h8⟩ : tmR W.heap.size (x, ofL (sortG (toL K))) (u 7) x9.1 := hu 7 (by decide)
            obtain ⟨q9, e9, q9z, B9⟩ : newR W.heap.size #[.slice none 0 0, .slice none 0 0] 63 (u 8) x9.1 := hu 8 (by decide)
            simp only [frm, List.take, Act.put, e8, e9]
            rw [← HSZ.out]
            have H8 := hidE h8; have HB9 := hidE x9.2; have B9' := hidE B9
            have z9 := B9.lt; have y0 := B9.free 0; have y1 := B9.free 1; have j0 := B9.cell 0; have j1 := B9.cell 1
            simp at j0 j1
            have HF2 := hidE (putM B9 (.slice a8 sz c8) (.slice a9 sz c9))
            clear hu hne e8 e9 h8 B9 e0 e1 e2 e3 e4 ez f1 fz g0 gz
            generalize x9.1 = w9 at *
            go_wp2
            go_meet
            case rel =>
              refine ⟨q9, a8, c8, a9, c9, rfl, HF2.out, ?_, ?_⟩
              · exact (H8.out.put B9'.out (by simp) 0 _).put (B9'.out.set 0 _) (by simp) 1 _
              · exact HS.out.past ((HB9.out.setCell (p := ⟨q9, 0, none⟩) q9z _).setCell (p := ⟨q9, 1, none⟩) q9z _)
        case rest =>
        obtain ⟨q9, a8, c8, a9, c9, rfl, hB9, hT9, hS9⟩ := hcut
        have HWZ := hidE (show w.heap.size + 2 ≤ W.heap.size from by have := HS.out.h2.lt; omega)
        obtain ⟨W3, hW3⟩ : ∃ W3, W3 = wc := ⟨_, rfl⟩
        rw [← hW3]; rw [← hW3] at hB9 hT9 hS9; clear hW3
        clear k0 z4 HS
        have HS := hidE hS9; have HT9 := hidE hT9; have HB9 := hidE hB9
        clear hS9 hT9 hB9
        have HCN := hidE (fun (V : World) (h : Below W3.heap.size W3 V) => text9_c (fun k => W.heap.size ≤ k) (x, ofL (sortG (toL K))) a8 c8 a9 c9 sz HSZ.out V (fitT_gd (fitT_sort HFT.out)) (by have h := HN.out; simp only [sizT] at h ⊢; rw [sizL_of, (sortG_siz _).1, sizL_to]; omega) (HT9.out.past h))
        have HCT := hidE (fun (V : World) (h : Below W3.heap.size W3 V) => text9_c (fun k => lo k ∧ k < w.heap.size) (x, K) (some ⟨b, off, none⟩) c (some ⟨b2, off2, none⟩) c2 n HN.out V HGD.out (by rw [← HN.out]; omega) ((HT.out.cut hbb hbb2).past (HS.out.bel.trans (h.mono HS.out.bel.size))))
        have f0 := HS.out.h1.cell 0; have f1 := HS.out.h1.cell 1; have fz := HS.out.h1.lt; have g0 := HB9.out.cell 0; have g1 := HB9.out.cell 1; have gz := HB9.out.lt
        simp at f0 f1 g0 g1
        obtain ⟨nb, hnb⟩ : ∃ nb, (!(tx9 (x, ofL (sortG (toL K))) == tx9 (x, K))) = nb := ⟨_, rfl⟩
        have HNB := hidE hnb
        go_upto_region 15 with fail
        refine wp_region_past_lit (by kernel_rfl) (by kernel_rfl) ?_
        have hcp := Past.cell (W := W3)
        repeat (go_big_quiet_step ((go_at_call 69; first | exact Past.call _ (HCN.out _ (Past.prop _)) | exact Past.call _ (HCT.out _ (Past.prop _)))))
        refine wpQuiet_nil ?_
        rintro _ ⟨x', rfl⟩
        have HS2 := hidE (HS.out.past x'.2); have HB2 := hidE (HB9.out.past x'.2); have HT2 := hidE (HT9.out.past x'.2)
        clear hcp f0 f1 fz g0 g1 gz HS HB9 HT9 HCN HCT
        try rw [hnb]
        clear hnb
        have HS := HS2
        clear HS2
        generalize x'.1 = W4 at *
        cases nb with
        | false =>
          have HTX := hidE (HST.out.1 (by simpa using HNB.out))
          have f0 := HS.out.h1.cell 0; have f1 := HS.out.h1.cell 1; have fz := HS.out.h1.lt
          have z2 := HS.out.h2.lt; have y0 := HS.out.h2.free 0; have y1 := HS.out.h2.free 1; have j0 := HS.out.h2.cell 0; have j1 := HS.out.h2.cell 1
          simp at j0 j1
          have HF2 := hidE (putM HS.out.h2 (.slice (some ⟨b, off, none⟩) n c) (.slice (some ⟨b2, off2, none⟩) n c2))
          have HBL := hidE HS.out.bel
          have HOT := hidE (show oneT (x, K) = none from by unfold oneT; simp only [HNE.out, HKK.out]; rw [HFL.out]; rw [← HTX.out]; simp)
          simp at f0 f1
          go_wp2
          have c0 := HF2.out.cell 0; have c1 := HF2.out.cell 1
          simp at c0 c1
          refine bodyPost_ret (v := .tuple #[tmV n (some ⟨b, off, none⟩) c (some ⟨b2, off2, none⟩) c2, .bool false]) (by simp [results, Tryz.results48, go_sem, c0, c1]) rfl ⟨(x, K), false, (some ⟨b, off, none⟩), c, (some ⟨b2, off2, none⟩), c2, ?_, ?_, ?_, .inl ⟨rfl, rfl, HOT.out⟩⟩
          · rw [← HN.out]
          · exact (((HT.out.cut hbb hbb2).past HBL.out).store (g := w.heap.size + 1) (fun q => by have := q.2; omega) 0 _ |>.store (g := w.heap.size + 1) (fun q => by have := q.2; omega) 1 _).lower fun k q => .inl q.1
          · exact (HBL.out.setCell (p := ⟨w.heap.size + 1, 0, none⟩) (by simp) _).setCell (p := ⟨w.heap.size + 1, 1, none⟩) (by simp) _
        | true =>
          have HTX := hidE (fun h => (by simpa using HNB.out : ¬ _) (HST.out.2 h))
          have HOT := hidE (show oneT (x, K) = some (x, ofL (sortG (toL K))) by unfold oneT; simp only [HNE.out, HKK.out]; rw [HFL.out]; simp; exact HTX.out)
          have z2 := HS.out.h2.lt; have y0 := HS.out.h2.free 0; have y1 := HS.out.h2.free 1; have j0 := HS.out.h2.cell 0; have j1 := HS.out.h2.cell 1
          have g0 := HB2.out.cell 0; have g1 := HB2.out.cell 1; have gz := HB2.out.lt
          simp at j0 j1 g0 g1
          have HF2 := hidE (putM HS.out.h2 (.slice a8 sz c8) (.slice a9 sz c9))
          have HBL := hidE HS.out.bel
          go_wp2
          have c0 := HF2.out.cell 0; have c1 := HF2.out.cell 1
          simp at c0 c1
          refine bodyPost_ret (v := .tuple #[tmV sz a8 c8 a9 c9, .bool true]) (by simp [results, Tryz.results48, go_sem, c0, c1]) rfl ⟨(x, ofL (sortG (toL K))), true, a8, c8, a9, c9, by rw [HSZ.out], ?_, ?_, .inr ⟨rfl, HOT.out⟩⟩
          · have hwz := HWZ.out; exact ((HT2.out.store (g := w.heap.size + 1) (by omega) 0 _).store (g := w.heap.size + 1) (by omega) 1 _).lower fun k q => .inr (by omega)
          · exact (HBL.out.setCell (p := ⟨w.heap.size + 1, 0, none⟩) (by simp) _).setCell (p := ⟨w.heap.size + 1, 1, none⟩) (by simp) _
      · have r1 : ((m : Int) != (K.len : Int)) = true := by simp; omega
        have HOT := hidE (show oneT (x, K) = some (x, ofL lm) by rw [HLM.out]; unfold oneT; simp only [HNE.out, HKK.out]; rw [HLM.out] at HML; have := HML.out; rw [← toL_len] at hfm ⊢; rw [← toL_len] at this; simp; intro q; omega)
        go_upto_region 8 with fail
        have e0 := HS.out.h4.cell 0; have e1 := HS.out.h4.cell 1; have e2 := HS.out.h4.cell 2; have e3 := HS.out.h4.cell 3; have e4 := HS.out.h4.cell 4; have ez := HS.out.h4.lt
        have f1 := HS.out.h1.cell 1; have fz := HS.out.h1.lt
        have g0 := (HS.out.bel.cell (p := ⟨b2, _, none⟩) hbb2).trans HQ.out; have gz := Nat.lt_of_lt_of_le hbb2 HS.out.bel.size
        simp at e0 e1 e2 e3 e4 f1
        have HOF := hidE (fun (V : World) (h : Below W.heap.size W V) => of9_c (fun k => lo k ∧ k < w.heap.size) x (K.len : Int) lm am cm m HML.out V HLZ.out hx (HSR.out.past h))
        clear k0 z4
        refine wp_region_J 7 [] (nthR [detR (prtV { x with kids := (K.len : Int) }), detR (.pointer (some ⟨w.heap.size, 1, none⟩)), detR (.slice (some ⟨b2, off2, none⟩) n c2), detR (.pointer (some ⟨b2, off2, none⟩)), detR (.int .i64 x.kids), detR (.slice am m cm), tmR W.heap.size (x, ofL lm)]) (fun _ => false) (by kernel_rfl) (by simp) (by kernel_rfl) (stab_nth (by simp [stab_det, stab_tm])) ?_ ?_ ?_
        · intro i o hi ho
          match i, hi with
          | 0, _ =>
            obtain rfl := Option.some.inj ho
            intro u x hd
            have hc := Past.cell x
            simp [go_sem, gives, frm, Act.put, nthR, detR, Region.wanted, Below.refl, hc, e0, e1, e2, e3, e4, ez]
          | 1, _ =>
            obtain rfl := Option.some.inj ho
            intro u x hd
            have hc := Past.cell x
            simp [go_sem, gives, frm, Act.put, nthR, detR, Region.wanted, Below.refl]
          | 2, _ =>
            obtain rfl := Option.some.inj ho
            intro u x hd
            have hc := Past.cell x
            have d1 := hd 1 (by decide) (by kernel_rfl)
            simp only [nthR, detR, List.getD_cons_zero, List.getD_cons_succ] at d1
            simp [go_sem, gives, frm, Act.put, nthR, detR, Region.wanted, Below.refl, hc, d1, f1, fz]
          | 3, _ =>
            obtain rfl := Option.some.inj ho
            intro u x hd
            have hc := Past.cell x
            have d2 := hd 2 (by decide) (by kernel_rfl)
            simp only [nthR, detR, List.getD_cons_zero, List.getD_cons_succ] at d2
            simp [go_sem, gives, frm, Act.put, nthR, detR, Region.wanted, Below.refl, d2, hs0]
          | 4, _ =>
            obtain rfl := Option.some.inj ho
            intro u x hd
            have hc := Past.cell x
            have d3 := hd 3 (by decide) (by kernel_rfl)
            simp only [nthR, detR, List.getD_cons_zero, List.getD_cons_succ] at d3
            simp [go_sem, gives, frm, Act.put, nthR, detR, Region.wanted, Below.refl, hc, d3, g0, gz]
          | 5, _ =>
            obtain rfl := Option.some.inj ho
            intro u x hd
            have hc := Past.cell x
            simp [go_sem, gives, frm, Act.put, nthR, detR, Region.wanted, Below.refl]
          | 6, _ =>
            obtain rfl := Option.some.inj ho
            intro u x hd
            have hc := Past.cell x
            have d0 := hd 0 (by decide) (by kernel_rfl)
            have d4 := hd 4 (by decide) (by kernel_rfl)
            have d5 := hd 5 (by decide) (by kernel_rfl)
            simp only [nthR, detR, List.getD_cons_zero, List.getD_cons_succ] at d0 d4 d5
            simp [go_sem, gives, frm, Act.put, nthR, Region.wanted, d0, d4, d5]
            have hx2 := x.2; (with_reducible refine (HOF.out _ hx2).mono ?_); rintro e w3 ⟨a3, c3, a4, c4, rfl, h3, hb3⟩; exact ⟨_, rfl, hb3, ⟨a3, c3, a4, c4, rfl, h3.lower fun k q => Nat.le_trans hx2.size q⟩⟩
          | i + 7, h => exact absurd h (by omega)
        · intro i o h; cases h
        · intro u x9 hu hne
          obtain ⟨a8, c8, a9, c9, e8, h8⟩ : tmR W.heap.size (x, ofL lm) (u 6) x9.1 := hu 6 (by decide)
          simp only [frm, List.take, Act.put, e8]
          have H8 := hidE h8; have HB9 := hidE x9.2
          have hB2 := HS.out.h2.past x9.2
          have HBL := hidE (HS.out.bel.trans (x9.2.mono HS.out.bel.size))
          have zW := HS.out.h2.lt
          obtain ⟨sz, hsz⟩ : ∃ sz, sz = sizT (x, ofL lm) := ⟨_, rfl⟩
          rw [← hsz]
          have HSZ := hidE hsz
          have z2 := hB2.lt; have y0 := hB2.free 0; have y1 := hB2.free 1; have j0 := hB2.cell 0; have j1 := hB2.cell 1
          simp at j0 j1
          have HF2 := hidE (putM hB2 (.slice a8 sz c8) (.slice a9 sz c9))
          clear hu hne e8 h8 hB2 e0 e1 e2 e3 e4 ez f1 fz g0 gz hsz
          generalize x9.1 = w9 at *
          go_wp2
          have c0 := HF2.out.cell 0; have c1 := HF2.out.cell 1
          simp at c0 c1
          refine bodyPost_ret (v := .tuple #[tmV sz a8 c8 a9 c9, .bool true]) (by simp [results, Tryz.results48, go_sem, c0, c1]) rfl ⟨(x, ofL lm), true, a8, c8, a9, c9, by rw [HSZ.out], ?_, ?_, .inr ⟨rfl, HOT.out⟩⟩
          · exact ((H8.out.store (g := w.heap.size + 1) (by omega) 0 _).store (g := w.heap.size + 1) (by omega) 1 _).lower fun k q => .inr (by omega)
          · exact (HBL.out.setCell (p := ⟨w.heap.size + 1, 0, none⟩) (by simp) _).setCell (p := ⟨w.heap.size + 1, 1, none⟩) (by simp) _
end Go.Proofs.YtioalnncjahlnaaGreatDoor

namespace Go.Proofs.YtioalnncjahlnaaGreatDoor
open Go.ChangeShapes Go.WideShapes Go.ChangeAt Go.RowKit
attribute [local irreducible] Go.Calls

/-- A term made plain. -/
def plT (t : Tm) : Tm := nfT (t.1, plainF t.2)
theorem toL_plain : ∀ F : Fst, toL (plainF F) = (toL F).map plT
  | .nil => rfl
  | .cons x K N => by rw [plain_cons, toL, toL, List.map_cons, toL_plain N]; rfl
theorem plainF_of (K : Fst) : plainF K = ofL ((toL K).map plT) := by rw [← toL_plain, of_to]
/-- All places are told. -/
def labT (t : Tm) : Prop := 0 ≤ t.1.kids ∧ ∀ y ∈ prsF t.2, 0 ≤ y.kids
theorem labT_cnt {t u : Tm} (h : labT t) (hc : ∀ p, cT p u ≤ cT p t) : labT u := by
  have hm : ∀ (t : Tm) (p : Prt), 0 < cT p t ↔ p = t.1 ∨ p ∈ prsF t.2 := fun t p => by
    have e : cT p t = (t.1 :: prsF t.2).count p := by simp [cT, prsF, List.count_cons]
    rw [e, List.count_pos_iff, List.mem_cons]
  have go : ∀ p, p = u.1 ∨ p ∈ prsF u.2 → 0 ≤ p.kids := fun p hp => by
    have h1 := (hm u p).2 hp
    have h2 := (hm t p).1 (by have := hc p; omega)
    rcases h2 with rfl | h2
    · exact h.1
    · exact h.2 p h2
  exact ⟨go _ (.inl rfl), fun y hy => go y (.inr hy)⟩
theorem labT_one {t u : Tm} (h : labT t) (e : oneT t = some u) : labT u := labT_cnt h fun p => oneT_cnt p e
theorem RowM.lower {lo lo' : Nat → Prop} {w : World} (hl : ∀ k, lo k → lo' k) : ∀ {xs : List Value} {l : List Tm}, RowM lo w xs l → RowM lo' w xs l
  | [], [], _ => trivial
  | [], _ :: _, h => h
  | [_], [], h => h
  | [_], _ :: _, h => h
  | _ :: _ :: _, [], h => h
  | _v1 :: _v2 :: _xs, _t :: _l, ⟨⟨a, c, a2, c2, e1, e2, h⟩, h2⟩ => ⟨⟨a, c, a2, c2, e1, e2, h.lower hl⟩, RowM.lower hl h2⟩
theorem labT_kid {x : Prt} {K : Fst} (h : labT (x, K)) : ∀ t ∈ toL K, labT t := by
  have go : ∀ (K : Fst), (∀ y ∈ prsF K, 0 ≤ y.kids) → ∀ t ∈ toL K, labT t := by
    intro K
    induction K with
    | nil => intro _ t ht; cases ht
    | cons y A N ihA ihN =>
      intro h t ht
      simp only [toL, List.mem_cons] at ht
      rcases ht with rfl | ht
      · exact ⟨h _ (by simp [prsF]), fun z hz => h z (by simp [prsF]; exact .inr (.inl hz))⟩
      · exact ihN (fun z hz => h z (by simp [prsF]; exact .inr (.inr hz))) t ht
  exact go K h.2
theorem fitT_plain {x : Prt} {K : Fst} {d i : Nat} (h : FitT (x, K) d i) : FitT (x, plainF K) d i :=
  ⟨by simp only [(plain_siz K).2]; exact h.1, h.2.1, h.2.2.1, plain_fit K _ _ h.2.2.2⟩
theorem labT_plain {x : Prt} {K : Fst} (h : labT (x, K)) : labT (x, plainF K) := by
  refine ⟨h.1, fun y hy => h.2 y ?_⟩
  have h1 := plain_cnt y K
  have h2 : 0 < (prsF (plainF K)).count y := List.count_pos_iff.2 hy
  exact List.count_pos_iff.1 (show 0 < (prsF K).count y by omega)
/-- A row's two cells are stored anew. -/
theorem own_put {W : World} {B n cap g i : Nat} {xs : List Value} {e : TypeId} (h : W.ownsRow B e 2 (.slice (some ⟨g, 0, none⟩) n cap) n xs) (_hi : i < n) (u1 u2 : Value) :
    ((W.setCell ⟨g, i * 2, none⟩ u1).setCell ⟨g, i * 2 + 1, none⟩ u2).ownsRow B e 2 (.slice (some ⟨g, 0, none⟩) n cap) n ((xs.set (i * 2) u1).set (i * 2 + 1) u2) := by
  obtain ⟨h1, h2 | ⟨g', cap', cur, q1, q2, q3, q4, q5, q6, q7⟩⟩ := h
  · cases h2.1
  · cases q1
    have hb : Blk W g cur e := q3
    have hb2 := (hb.set (i * 2) u1).set (i * 2 + 1) u2
    refine ⟨by simpa using h1, .inr ⟨g, cap, _, rfl, q2, hb2, q4, q5, by simpa using q6, ?_⟩⟩
    rw [← q7]
    simp [List.take_set]
theorem own_open {W : World} {B n sz : Nat} {v : Value} {xs : List Value} {e : TypeId} (h : W.ownsRow B e sz v n xs) (hn : 0 < n) : ∃ g cap cur, v = .slice (some ⟨g, 0, none⟩) n cap ∧ B ≤ g ∧ Blk W g cur e := by
  obtain ⟨h1, h2 | ⟨g', cap', cur, q1, q2, q3, q4, q5, q6, q7⟩⟩ := h
  · omega
  · exact ⟨g', cap', cur, q1, q2, q3⟩
/-- What `plain` hands back. -/
def PlIs (lo : Nat → Prop) (w : World) (t : Tm) (e : Ending) (w' : World) : Prop :=
  ∃ (a : Option Addr) (c : Nat) (a2 : Option Addr) (c2 : Nat), e = .returned (tmV (sizT t) a c a2 c2) ∧ TmAt (fun k => lo k ∨ w.heap.size ≤ k) w' t a c a2 c2 ∧ Below w.heap.size w w'
set_option maxRecDepth 100000 in
set_option maxHeartbeats 8000000 in
theorem plain9_c : ∀ (m : Nat) (lo : Nat → Prop) (x : Prt) (K : Fst) (deep ink n : Nat) (a : Option Addr) (c : Nat) (a2 : Option Addr) (c2 : Nat) (w : World), K.size < m → n = sizT (x, K) → FitT (x, K) deep ink → 1 ≤ deep → n ≤ 64 → labT (x, K) → TmAt lo w (x, K) a c a2 c2 →
    Calls Tryz.prog 25 #[tmV n a c a2 c2] w (PlIs lo w (plT (x, K))) := by
  intro m
  induction m with
  | zero => intro lo x K deep ink n a c a2 c2 w h; omega
  | succ m ih =>
    intro lo x K deep ink n a c a2 c2 w hm hn hf hd hs hlab hT
    have hgd := fitT_gd hf
    have hl16 : K.len ≤ 16 := fitT_len hf
    have hall := (fit_all K _ _).1 hf.2.2.2
    have hsz : ∀ t ∈ toL K, sizT t ≤ K.size := fun t ht => by
      obtain ⟨A, B, e⟩ := List.append_of_mem ht
      have := sizL_to K
      rw [e, sizL_app] at this
      simp only [sizL] at this; omega
    have hx := hlab.1
    have hkl := labT_kid hlab
    obtain ⟨b, off, rfl, hbb, hc⟩ := hT.L (by rw [flT_len]; simp only [sizT]; omega)
    obtain ⟨b2, off2, rfl, hbb2, hc2⟩ := hT.F (by rw [natsI_len, frT_len]; simp only [sizT]; omega)
    have p0 := hc.get (i := 0) (by rw [flT_len]; simp only [sizT]; omega)
    have q0 := hc2 0 (by rw [natsI_len, frT_len]; simp only [sizT]; omega)
    rw [flT_eq] at p0
    obtain ⟨p0, p1, p2, p3, p4⟩ := p0
    simp at p0 p1 p2 p3 p4
    have hq : (natsI (frT (x, K))).getD 0 0 = x.kids := by simp only [sizT] at hn; simp [frT, fromF_cons, natsI]; have := hx; simp only at this; omega
    rw [hq] at q0
    simp at q0
    simp only at hx
    have hs0 : 0 < n := by rw [hn]; simp only [sizT]; omega
    have hm1 : n ≤ c := by rw [hn]; exact hT.n1
    have hm2 : n ≤ c2 := by rw [hn]; exact hT.n2
    have HT := hidE hT; have HFT := hidE hf; have HN := hidE hn; have HGD := hidE hgd; have HALL := hidE hall; have HSZ := hidE hsz; have HKL := hidE hkl; have IH := hidE ih; have HM := hidE hm; have HLAB := hidE hlab
    have HP0 := hidE p0; have HP1 := hidE p1; have HP2 := hidE p2; have HP3 := hidE p3; have HP4 := hidE p4; have HQ := hidE q0
    clear hc hc2 hT hf hn hgd hall hsz hkl ih hm hlab hq p0 p1 p2 p3 p4 q0
    go_enter Tryz.func25, Tryz.ntmps25
    go_upto_region 1 with fail
    obtain ⟨w0, hw0⟩ : ∃ w0, w0 = (w.alloc (.cells #[.slice (some ⟨b, off, none⟩) n c, .slice (some ⟨b2, off2, none⟩) n c2] 63)).alloc (.cells #[.slice none 0 0, .slice none 0 0] 63) := ⟨_, rfl⟩
    rw [← hw0]
    have hb0 : Below w.heap.size w w0 := by rw [hw0]; (repeat (first | exact Below.refl _ _ | assumption | refine balloc ?_ _ | refine below_drewN ?_ _ | refine bstep (by assumption) ?_ | refine bstep (Past.prop _) ?_ | refine Below.setCell ?_ (by first | exact Nat.le_refl _ | (simp; done) | (simp; omega)) _))
    have h1 : Blk w0 w.heap.size #[.slice (some ⟨b, off, none⟩) n c, .slice (some ⟨b2, off2, none⟩) n c2] 63 := by rw [hw0]; exact (Blk.made _ _ _).alloc _
    have h2 : Blk w0 (w.heap.size + 1) #[.slice none 0 0, .slice none 0 0] 63 := by rw [hw0]; exact Blk.made_at _ _ _ _ (by simp)
    have hz0 : w.heap.size + 2 ≤ w0.heap.size := by rw [hw0]; simp
    clear hw0
    have f0 := h1.cell 0; have f1 := h1.cell 1; have fz := h1.lt
    simp at f0 f1
    have HKD := hidE (kids9_c (fun k => lo k ∧ k < w.heap.size) (x, K) (some ⟨b, off, none⟩) c (some ⟨b2, off2, none⟩) c2 w0 HGD.out (by rw [← HN.out]; omega) ((HT.out.cut hbb hbb2).past hb0))
    rw [← HN.out] at HKD
    go_wp2_with fail
    ((with_reducible refine HKD.out.mono ?_); rintro e w1 ⟨v3, rfl, hr3, hb3⟩)
    obtain ⟨xs0, ho0, hrx0⟩ := hr3
    have HB1 := hidE (hb0.trans (hb3.mono hb0.size)); have H1 := hidE (h1.past hb3); have H2 := hidE (h2.past hb3)
    have hv3 : ∃ a3 c3, v3 = .slice a3 K.len c3 := by
      obtain ⟨a3, c3, e⟩ := own_sli ho0
      rw [toL_len] at e
      exact ⟨a3, c3, e⟩
    obtain ⟨S, hS⟩ : ∃ S : Nat → Prop, S = fun k => ((lo k ∧ k < w.heap.size) ∨ w.heap.size + 2 ≤ k) ∧ v3.ownBlock ≠ some k := ⟨_, rfl⟩
    have HS := hidE hS
    have hown : OwnM w0.heap.size S w1 v3 ((toL K).map id) := ⟨xs0, by simpa using ho0, by
      rw [List.map_id]
      refine RowM.lower (fun k q => ?_) (hrx0.past hb3)
      rw [hS]
      exact ⟨.inl q, fun e => by have := own_block ho0 e; have := hb0.size; omega⟩⟩
    rw [List.map_id] at hown
    have HOWN := hidE hown
    obtain ⟨a3, c3, rfl⟩ := hv3
    clear ho0 hrx0 hb0 h1 h2 f0 f1 fz hb3 hS hown HKD
    go_wp2
    go_loopg [4] K.len (fun gh v4 wr => ∃ C R : List Tm, v4 = .int .i64 C.length ∧ C ++ R = toL K ∧ R.length ≤ gh ∧ OwnM w0.heap.size S wr (.slice a3 K.len c3) (C.map plT ++ R) ∧ Blk wr w.heap.size #[.slice (some ⟨b, off, none⟩) n c, .slice (some ⟨b2, off2, none⟩) n c2] 63 ∧ Blk wr (w.heap.size + 1) #[.slice none 0 0, .slice none 0 0] 63 ∧ Below w.heap.size w wr)
    case atStart => exact ⟨[], toL K, rfl, rfl, by rw [toL_len]; exact Nat.le_refl _, HOWN.out, H1.out, H2.out, HB1.out⟩
    case round =>
      clear HOWN H1 H2
      obtain ⟨C, R, rfl, hCR, hgh, hO, h1, h2, hb⟩ := hrel
      have hlen : C.length + R.length = K.len := by rw [← toL_len, ← hCR, List.length_append]
      have HLEN := hidE hlen
      have HCR := hidE hCR; have HGH := hidE hgh; have HO := hidE hO; have H1 := hidE h1; have H2 := hidE h2; have HB := hidE hb
      clear hCR hgh hO h1 h2 hb
      cases R with
      | cons u R =>
        have q1 : decide ((C.length : Int) < (K.len : Int)) = true := decide_eq_true (by simp at hlen; omega)
        have q2 : C.length < K.len := by simp at hlen; omega
        have hRl : R.length + 1 + C.length = K.len := by simp at hlen; omega
        have HRL := hidE hRl
        have hmem : u ∈ toL K := by rw [← HCR.out]; simp
        obtain ⟨xs, ho, hr⟩ := HO.out
        obtain ⟨g, cap, cur, ev, hgB, hbg⟩ := own_open ho (by simp; omega)
        simp only [Value.slice.injEq] at ev
        obtain ⟨rfl, ev, rfl⟩ := ev
        clear ev
        have hll : (C.map plT ++ u :: R).length = K.len := by simp; omega
        rw [hll] at ho
        obtain ⟨ak, ck, ak2, ck2, x0, x1, hTu⟩ := hr.get C.length (by rw [hll]; omega)
        have hge : (C.map plT ++ u :: R).getD C.length tm0 = u := by rw [List.getD_eq_getElem?_getD, List.getElem?_append_right (by simp)]; simp
        rw [hge] at x0 x1 hTu
        have d0 := ho.cells rfl _ _ x0
        have d1 := ho.cells rfl _ _ x1
        rw [add_at, Nat.zero_add] at d0 d1
        have hbz := hbg.lt
        have hk1 : n ≤ 64 := hs
        have HU := hidE (IH.out S u.1 u.2 (deep + 1) x.kind (sizT u) ak ck ak2 ck2 wr (by have h8 := HSZ.out u hmem; have h9 := HM.out; simp only [sizT] at h8; omega) rfl (HALL.out u hmem) (by omega) (by have h8 := HSZ.out u hmem; have h9 := HN.out; simp only [sizT] at h8 h9 ⊢; omega) (HKL.out u hmem) hTu)
        have HOW := hidE ho; have HRW := hidE hr; have HBG := hidE hbg
        have hgz : w0.heap.size ≤ g := hgB
        have hnS : ¬ S g := by rw [HS.out]; exact fun q => q.2 rfl
        have HNS := hidE hnS
        clear hmem hr hll hge x0 x1 hTu ho hbg hgB hnS hlen hRl
        go_wp2_with (go_at_call 25; ((with_reducible refine HU.out.mono ?_); rintro e w4 ⟨a6, c6, a7, c7, rfl, hT6, hb4⟩; obtain ⟨nz, hnz⟩ : ∃ nz, nz = sizT (plT (u.1, u.2)) := ⟨_, rfl⟩; rw [← hnz]; have HNZ := hidE hnz; have HT6 := hidE hT6; have HB4 := hidE hb4; have HG4 := hidE (HBG.out.past hb4); have j0 := (hb4.cell (p := ⟨g, _, none⟩) hbz).trans d0; have j1 := (hb4.cell (p := ⟨g, _, none⟩) hbz).trans d1; have y0 := HG4.out.free (C.length * 2); have y1 := HG4.out.free (C.length * 2 + 1); have z4 := HG4.out.lt; clear hnz hT6 hb4))
        have hT6 := HT6.out.lower (lo' := S) (fun k q => by
          rcases q with q | q
          · exact q
          · rw [HS.out]
            have h4 := HB.out.size
            exact ⟨.inr (by have := HBG.out.lt; omega), fun e => absurd (show g = k from by simpa [Value.ownBlock] using e) (by have := HBG.out.lt; omega)⟩)
        have hput := own_put (own_below HOW.out HB4.out) q2 (.slice a6 nz c6) (.slice a7 nz c7)
        have hT7 := (hT6.store HNS.out (C.length * 2) (.slice a6 nz c6)).store HNS.out (C.length * 2 + 1) (.slice a7 nz c7)
        have hr7 := (((HRW.out.past HB4.out).store HNS.out (C.length * 2) (.slice a6 nz c6)).store HNS.out (C.length * 2 + 1) (.slice a7 nz c7))
        have hr8 := RowM.set hT7 C.length hr7 (by simp)
        rw [← HNZ.out] at hr8
        have hset : (C.map plT ++ u :: R).set C.length (plT (u.1, u.2)) = (C ++ [u]).map plT ++ R := by
          rw [List.set_append_right _ _ (by simp)]; simp
        rw [hset] at hr8
        have HOW2 := hidE hput; have HR8 := hidE hr8
        have hbel : Below w.heap.size w ((w4.setCell ⟨g, C.length * 2, none⟩ (.slice a6 nz c6)).setCell ⟨g, C.length * 2 + 1, none⟩ (.slice a7 nz c7)) :=
          ((HB.out.trans (HB4.out.mono HB.out.size)).setCell (p := ⟨g, _, none⟩) (by simp; omega) _).setCell (p := ⟨g, _, none⟩) (by simp; omega) _
        have HBEL := hidE hbel
        have HX1 := hidE (((H1.out.past HB4.out).other (b := g) (i := C.length * 2) (by omega) (.slice a6 nz c6)).other (b := g) (i := C.length * 2 + 1) (by omega) (.slice a7 nz c7))
        have HX2 := hidE (((H2.out.past HB4.out).other (b := g) (i := C.length * 2) (by omega) (.slice a6 nz c6)).other (b := g) (i := C.length * 2 + 1) (by omega) (.slice a7 nz c7))
        clear hT6 hput hT7 hr7 hr8 hset hbel HT6 HOW HRW d0 d1
        go_roundg R.length
        case measure => have := HGH.out; simp only [List.length_cons] at this; omega
        case rel =>
          refine ⟨C ++ [u], R, by first | (simp; done) | go_num, by rw [← HCR.out]; simp, Nat.le_refl _, ⟨_, ?_, HR8.out⟩, HX1.out, HX2.out, HBEL.out⟩
          have : ((C ++ [u]).map plT ++ R).length = K.len := by have := HRL.out; simp; omega
          rw [this]; exact HOW2.out
      | nil =>
        have q1 : decide ((C.length : Int) < (K.len : Int)) = false := decide_eq_false (by simp at hlen; omega)
        have q2 : ¬ C.length < K.len := by simp at hlen; omega
        clear hlen
        have HSL := hidE (show SliM S wr (.slice a3 K.len c3) (toL (plainF K)) from by
          have h := HO.out.sli
          have e := HCR.out
          rw [List.append_nil] at h e
          rw [toL_plain, ← e]; exact h)
        obtain ⟨w1, hw1⟩ : ∃ w1, w1 = wr := ⟨_, rfl⟩
        subst hw1
        clear HCR HO HGH
        go_upto_region 6 with fail
        go_cut [] (fun wx => ∃ (sz : Nat) (a8 : Option Addr) (c8 : Nat) (a9 : Option Addr) (c9 : Nat), sz = sizT (x, plainF K) ∧ Blk wx w.heap.size #[.slice a8 sz c8, .slice a9 sz c9] 63 ∧ Blk wx (w.heap.size + 1) #[.slice none 0 0, .slice none 0 0] 63 ∧ TmAt (fun k => (lo k ∧ k < w.heap.size) ∨ w.heap.size + 2 ≤ k) wx (x, plainF K) a8 c8 a9 c9 ∧ Below w.heap.size w wx)
        case first =>
          have t0 := (HB.out.cell (p := ⟨b, _, none⟩) hbb).trans HP0.out; have t1 := (HB.out.cell (p := ⟨b, _, none⟩) hbb).trans HP1.out; have t2 := (HB.out.cell (p := ⟨b, _, none⟩) hbb).trans HP2.out; have t3 := (HB.out.cell (p := ⟨b, _, none⟩) hbb).trans HP3.out; have t4 := (HB.out.cell (p := ⟨b, _, none⟩) hbb).trans HP4.out
          have bb := Nat.lt_of_lt_of_le hbb HB.out.size; have gz := Nat.lt_of_lt_of_le hbb2 HB.out.size
          have g0 := (HB.out.cell (p := ⟨b2, _, none⟩) hbb2).trans HQ.out
          have f0 := H1.out.cell 0; have f1 := H1.out.cell 1; have fz := H1.out.lt
          simp at f0 f1
          have HOF := hidE (fun (V : World) (h : Below w1.heap.size w1 V) => of9_c S x (K.len : Int) (toL (plainF K)) a3 c3 K.len (by rw [toL_plain, List.length_map, toL_len]) V (by rw [sizL_to]; have := (plain_siz K).1; have := HN.out; simp only [sizT] at this; omega) hx (HSL.out.past h))
          refine wp_region_J 10 [] (nthR [detR (.pointer (some ⟨w.heap.size, 0, none⟩)), detR (.slice (some ⟨b, off, none⟩) n c), detR (.pointer (some ⟨b, off, none⟩)), detR (prtV { x with kids := (K.len : Int) }), detR (.pointer (some ⟨w.heap.size, 1, none⟩)), detR (.slice (some ⟨b2, off2, none⟩) n c2), detR (.pointer (some ⟨b2, off2, none⟩)), detR (.int .i64 x.kids), detR (.slice a3 K.len c3), tmR w1.heap.size (x, ofL (toL (plainF K)))]) (fun _ => false) (by kernel_rfl) (by simp) (by kernel_rfl) (stab_nth (by simp [stab_det, stab_tm])) ?_ ?_ ?_
          · intro i o hi ho
            match i, hi with
            | 0, _ =>
              obtain rfl := Option.some.inj ho
              intro u x hd
              have hc := Past.cell x
              simp [go_sem, gives, frm, Act.put, nthR, detR, Region.wanted, Below.refl]
            | 1, _ =>
              obtain rfl := Option.some.inj ho
              intro u x hd
              have hc := Past.cell x
              have d0 := hd 0 (by decide) (by kernel_rfl)
              simp only [nthR, detR, List.getD_cons_zero] at d0
              simp [go_sem, gives, frm, Act.put, nthR, detR, Region.wanted, Below.refl, hc, d0, f0, fz]
            | 2, _ =>
              obtain rfl := Option.some.inj ho
              intro u x hd
              have hc := Past.cell x
              have d1 := hd 1 (by decide) (by kernel_rfl)
              simp only [nthR, detR, List.getD_cons_zero, List.getD_cons_succ] at d1
              simp [go_sem, gives, frm, Act.put, nthR, detR, Region.wanted, Below.refl, d1, hs0]
            | 3, _ =>
              obtain rfl := Option.some.inj ho
              intro u x hd
              have hc := Past.cell x
              have d2 := hd 2 (by decide) (by kernel_rfl)
              simp only [nthR, detR, List.getD_cons_zero, List.getD_cons_succ] at d2
              simp [go_sem, gives, frm, Act.put, nthR, detR, Region.wanted, Below.refl, hc, d2, t0, t1, t2, t3, t4, bb]
            | 4, _ =>
              obtain rfl := Option.some.inj ho
              intro u x hd
              have hc := Past.cell x
              simp [go_sem, gives, frm, Act.put, nthR, detR, Region.wanted, Below.refl]
            | 5, _ =>
              obtain rfl := Option.some.inj ho
              intro u x hd
              have hc := Past.cell x
              have d4 := hd 4 (by decide) (by kernel_rfl)
              simp only [nthR, detR, List.getD_cons_zero, List.getD_cons_succ] at d4
              simp [go_sem, gives, frm, Act.put, nthR, detR, Region.wanted, Below.refl, hc, d4, f1, fz]
            | 6, _ =>
              obtain rfl := Option.some.inj ho
              intro u x hd
              have hc := Past.cell x
              have d5 := hd 5 (by decide) (by kernel_rfl)
              simp only [nthR, detR, List.getD_cons_zero, List.getD_cons_succ] at d5
              simp [go_sem, gives, frm, Act.put, nthR, detR, Region.wanted, Below.refl, d5, hs0]
            | 7, _ =>
              obtain rfl := Option.some.inj ho
              intro u x hd
              have hc := Past.cell x
              have d6 := hd 6 (by decide) (by kernel_rfl)
              simp only [nthR, detR, List.getD_cons_zero, List.getD_cons_succ] at d6
              simp [go_sem, gives, frm, Act.put, nthR, detR, Region.wanted, Below.refl, hc, d6, g0, gz]
            | 8, _ =>
              obtain rfl := Option.some.inj ho
              intro u x hd
              have hc := Past.cell x
              simp [go_sem, gives, frm, Act.put, nthR, detR, Region.wanted, Below.refl]
            | 9, _ =>
              obtain rfl := Option.some.inj ho
              intro u x hd
              have hc := Past.cell x
              have d3 := hd 3 (by decide) (by kernel_rfl)
              have d7 := hd 7 (by decide) (by kernel_rfl)
              have d8 := hd 8 (by decide) (by kernel_rfl)
              simp only [nthR, detR, List.getD_cons_zero, List.getD_cons_succ] at d3 d7 d8
              simp [go_sem, gives, frm, Act.put, nthR, Region.wanted, d3, d7, d8]
              have hx2 := x.2; (with_reducible refine (HOF.out _ hx2).mono ?_); rintro e w3 ⟨a3, c3, a4, c4, rfl, h3, hb3⟩; exact ⟨_, rfl, hb3, ⟨a3, c3, a4, c4, rfl, h3.lower fun k q => Nat.le_trans hx2.size q⟩⟩
            | i + 10, h => exact absurd h (by omega)
          · intro i o h; cases h
          · intro u x9 hu hne
            obtain ⟨a8, c8, a9, c9, e8, h8⟩ : tmR w1.heap.size (x, ofL (toL (plainF K))) (u 9) x9.1 := hu 9 (by decide)
            rw [of_to] at e8 h8
            have e0 : u 0 = .pointer (some ⟨w.heap.size, 0, none⟩) := hu 0 (by decide)
            simp only [frm, List.take, Act.put, e8]
            have H8 := hidE h8
            have hB1 := H1.out.past x9.2
            have HB2 := hidE (H2.out.past x9.2)
            have HBL := hidE (HB.out.trans (x9.2.mono HB.out.size))
            have hzz := H2.out.lt
            obtain ⟨sz, hsz⟩ : ∃ sz, sz = sizT (x, plainF K) := ⟨_, rfl⟩
            rw [← hsz]
            have HSZ2 := hidE hsz
            have z2 := hB1.lt; have y0 := hB1.free 0; have y1 := hB1.free 1; have j0 := hB1.cell 0; have j1 := hB1.cell 1
            simp at j0 j1
            have HF2 := hidE (putM hB1 (.slice a8 sz c8) (.slice a9 sz c9))
            clear hu hne e8 h8 hB1 hsz t0 t1 t2 t3 t4 bb gz g0 f0 f1 fz e0
            generalize x9.1 = w9 at *
            go_wp2
            go_meet
            case rel =>
              refine ⟨sz, a8, c8, a9, c9, HSZ2.out, HF2.out, (HB2.out.other (by omega) _).other (by omega) _, ?_, (HBL.out.setCell (p := ⟨w.heap.size, 0, none⟩) (by simp) _).setCell (p := ⟨w.heap.size, 1, none⟩) (by simp) _⟩
              exact ((H8.out.store (g := w.heap.size) (by omega) 0 _).store (g := w.heap.size) (by omega) 1 _).lower fun k q => .inr (by omega)
        case rest =>
        obtain ⟨sz, a8, c8, a9, c9, hsz, h1, h2, hT, hb⟩ := hcut
        clear HSL H1 H2 HB HP0 HP1 HP2 HP3 HP4 HQ
        have HF := hidE (fitT_plain HFT.out); have HLB := hidE (labT_plain HLAB.out)
        have H1 := hidE h1; have H2 := hidE h2; have HTT := hidE hT; have HB := hidE hb; have HSS := hidE hsz
        have HS64 := hidE (show sizT (x, plainF K) ≤ 64 by have := (plain_siz K).1; have := HN.out; simp only [sizT] at this ⊢; omega)
        clear h1 h2 hT hb hsz
        go_wp2
        go_loopg [] (mu (x, plainF K)) (fun gh wr => ∃ (t : Tm) (sz : Nat) (a8 : Option Addr) (c8 : Nat) (a9 : Option Addr) (c9 : Nat), sz = sizT t ∧ Blk wr w.heap.size #[.slice a8 sz c8, .slice a9 sz c9] 63 ∧ Blk wr (w.heap.size + 1) #[.slice none 0 0, .slice none 0 0] 63 ∧ TmAt (fun k => (lo k ∧ k < w.heap.size) ∨ w.heap.size + 2 ≤ k) wr t a8 c8 a9 c9 ∧ Below w.heap.size w wr ∧ nfT t = plT (x, K) ∧ FitT t deep ink ∧ labT t ∧ sizT t ≤ 64 ∧ mu t ≤ gh)
        case atStart => exact ⟨(x, plainF K), sz, a8, c8, a9, c9, HSS.out, H1.out, H2.out, HTT.out, HB.out, rfl, HF.out, HLB.out, HS64.out, Nat.le_refl _⟩
        case round =>
          clear HSS H1 H2 HTT HB HF HLB HS64
          obtain ⟨t, sz, a8, c8, a9, c9, hsz, h1, h2, hT, hb, hnf, hft, hlb, h64, hmu⟩ := hrel
          have HSS := hidE hsz; have H1 := hidE h1; have H2 := hidE h2; have HTT := hidE hT; have HB := hidE hb; have HNF := hidE hnf; have HF := hidE hft; have HLB := hidE hlb; have HS64 := hidE h64; have HMU := hidE hmu
          have f0 := h1.cell 0; have f1 := h1.cell 1; have fz := h1.lt
          simp at f0 f1
          have HONE := hidE (one9_c (fun k => (lo k ∧ k < w.heap.size) ∨ w.heap.size + 2 ≤ k) t.1 t.2 deep ink sz a8 c8 a9 c9 wr hsz hft hd (by rw [hsz]; exact h64) hlb.1 hT)
          have hzz := h2.lt
          clear hsz h1 h2 hT hb hnf hft hlb h64 hmu
          obtain ⟨w4, hw4⟩ : ∃ w4, w4 = wr := ⟨_, rfl⟩
          subst hw4
          go_upto_region 8 with (go_at_call 48; ((with_reducible refine HONE.out.mono ?_); rintro e w5 ⟨u, bb, a10, c10, a11, c11, rfl, hT5, hb5, hu5⟩; obtain ⟨nz, hnz⟩ : ∃ nz, nz = sizT u := ⟨_, rfl⟩; rw [← hnz]; have HNZ := hidE hnz; have HT5 := hidE hT5; have HB5 := hidE hb5; have HU5 := hidE hu5; have H15 := hidE (H1.out.past hb5); have H25 := hidE (H2.out.past hb5); clear hnz hT5 hb5 hu5 f0 f1 fz))
          obtain ⟨w6, hw6⟩ : ∃ w6, w6 = w5.alloc (.cells #[.slice a10 nz c10, .slice a11 nz c11] 63) := ⟨_, rfl⟩
          have hb6 : Below w5.heap.size w5 w6 := by rw [hw6]; (repeat (first | exact Below.refl _ _ | assumption | refine balloc ?_ _ | refine below_drewN ?_ _ | refine bstep (by assumption) ?_ | refine bstep (Past.prop _) ?_ | refine Below.setCell ?_ (by first | exact Nat.le_refl _ | (simp; done) | (simp; omega)) _))
          have h56 : Blk w6 w5.heap.size #[.slice a10 nz c10, .slice a11 nz c11] 63 := by rw [hw6]; exact Blk.made _ _ _
          rw [← hw6]
          clear hw6
          have h1 := H15.out.past hb6; have h2 := H25.out.past hb6
          have hB6 := HB.out.trans ((HB5.out.trans (hb6.mono HB5.out.size)).mono HB.out.size)
          have HTU := hidE (HT5.out.past hb6)
          have HB6 := hidE hB6
          have f0 := h1.cell 0; have f1 := h1.cell 1; have fz := h1.lt; have g0 := h56.cell 0; have g1 := h56.cell 1; have gz := h56.lt
          simp at f0 f1 g0 g1
          cases bb with
          | false =>
            obtain ⟨_, hut, hot⟩ : false = false ∧ u = t ∧ oneT t = none := by
              rcases HU5.out with q | q
              · exact ⟨rfl, q.2⟩
              · cases q.1
            have HRES := hidE (show plT (x, K) = t from by rw [← HNF.out, nf_none hot])
            have z2 := h2.lt; have y0 := h2.free 0; have y1 := h2.free 1; have j0 := h2.cell 0; have j1 := h2.cell 1
            simp at j0 j1
            have HF2 := hidE (putM h2 (.slice a8 sz c8) (.slice a9 sz c9))
            have HTT2 := hidE ((HTT.out.past HB5.out).past hb6)
            clear h1 h2 hb6 hB6 hut hot h56
            go_wp2
            have c0 := HF2.out.cell 0; have c1 := HF2.out.cell 1
            simp at c0 c1
            try rw [Exit.noGoto_ret]
            refine bodyPost_ret (v := tmV sz a8 c8 a9 c9) (by simp [results, Tryz.results25, go_sem, c0, c1]) rfl ⟨a8, c8, a9, c9, ?_, ?_, ?_⟩
            · rw [HRES.out, HSS.out]
            · rw [HRES.out]; exact ((HTT2.out.store (g := w.heap.size + 1) (fun q => by omega) 0 _).store (g := w.heap.size + 1) (fun q => by omega) 1 _).lower fun k q => q.elim (fun q => .inl q.1) (fun q => .inr (by omega))
            · exact (HB6.out.setCell (p := ⟨w.heap.size + 1, 0, none⟩) (by simp) _).setCell (p := ⟨w.heap.size + 1, 1, none⟩) (by simp) _
          | true =>
            have hot : oneT t = some u := by
              rcases HU5.out with q | q
              · cases q.1
              · exact q.2
            have HOT := hidE hot
            have z2 := h1.lt; have y0 := h1.free 0; have y1 := h1.free 1
            have HF2 := hidE (putM h1 (.slice a10 nz c10) (.slice a11 nz c11))
            have HH2 := hidE ((h2.other (b := w.heap.size) (i := 0) (by omega) (.slice a10 nz c10)).other (b := w.heap.size) (i := 1) (by omega) (.slice a11 nz c11))
            clear h1 h2 hb6 hB6 hot h56
            go_wp2
            go_roundg (mu u)
            case measure => have h8 := HMU.out; have h9 := (oneT_siz HOT.out).2; omega
            case rel =>
              have hz4 := HB.out.size
              refine ⟨u, nz, a10, c10, a11, c11, HNZ.out, HF2.out, HH2.out, ?_, (HB6.out.setCell (p := ⟨w.heap.size, 0, none⟩) (by simp) _).setCell (p := ⟨w.heap.size, 1, none⟩) (by simp) _, by rw [← nf_some HOT.out]; exact HNF.out, oneT_fit HOT.out HF.out, labT_one HLB.out HOT.out, by have h8 := HS64.out; have h9 := (oneT_siz HOT.out).1; omega, Nat.le_refl _⟩
              refine TmAt.store (g := w.heap.size) (TmAt.store (g := w.heap.size) (HTU.out.lower fun k q => ?_) (fun q => by omega) 0 _) (fun q => by omega) 1 _
              rcases q with q | q
              · exact q
              · exact .inr (by omega)
end Go.Proofs.YtioalnncjahlnaaGreatDoor

namespace Go.Proofs.YtioalnncjahlnaaGreatDoor
open Go.ChangeShapes Go.WideShapes Go.ChangeAt Go.RowKit

/-- The row's cells. -/
def rowC (n : Nat) (d : Nat → Nat) : Array Value := ((List.range n).map fun i => Value.int .i64 (d i)).toArray
theorem rowC_get {n : Nat} {d : Nat → Nat} {i : Nat} (h : i < n) : (rowC n d)[i]? = some (.int .i64 (d i)) := by
  simp [rowC, List.getElem?_range h]
theorem rowC_size (n : Nat) (d : Nat → Nat) : (rowC n d).size = n := by simp [rowC]
theorem rowC_ext {n : Nat} {d d' : Nat → Nat} (h : ∀ i, i < n → d i = d' i) : rowC n d = rowC n d' := by
  unfold rowC
  congr 1
  exact List.map_congr_left fun i hi => by rw [h i (by simpa using hi)]
theorem rowC_set {n : Nat} {d : Nat → Nat} {i : Nat} (v : Nat) : (rowC n d).setIfInBounds i (.int .i64 v) = rowC n (fun k => if k = i then v else d k) := by
  apply Array.ext_getElem?
  intro k
  rw [Array.getElem?_setIfInBounds, rowC_size]
  by_cases c : i = k
  · subst c
    rw [if_pos rfl]
    by_cases h : i < n
    · rw [if_pos h, rowC_get h, if_pos rfl]
    · rw [if_neg h, Array.getElem?_eq_none (by rw [rowC_size]; omega)]
  · rw [if_neg c]
    by_cases h : k < n
    · rw [rowC_get h, rowC_get h, if_neg (by omega)]
    · rw [Array.getElem?_eq_none (by rw [rowC_size]; omega), Array.getElem?_eq_none (by rw [rowC_size]; omega)]
theorem rowC_swap {n : Nat} {d : Nat → Nat} {i j : Nat} : ((rowC n d).setIfInBounds i (.int .i64 (d j))).setIfInBounds j (.int .i64 (d i)) = rowC n (sw d i j) := by
  rw [rowC_set, rowC_set]
  refine rowC_ext fun k _ => ?_
  unfold sw
  by_cases c1 : k = j
  · by_cases c2 : k = i
    · rw [if_pos c1, if_pos c2, ← c1, ← c2]
    · rw [if_pos c1, if_neg c2, if_pos c1]
  · rw [if_neg c1, if_neg c1]

/-- A world of the sort's: the row holds d; what lies below it is as it was. -/
structure RowW (w0 : World) (blk n : Nat) (t : TypeId) (d : Nat → Nat) (w : World) : Prop where
  here : Blk w blk (rowC n d) t
  low : Below blk w0 w
variable {w0 w w' : World} {blk n : Nat} {t : TypeId} {d : Nat → Nat}
theorem RowW.lt (h : RowW w0 blk n t d w) : blk < w.heap.size := h.here.lt
theorem RowW.cell (h : RowW w0 blk n t d w) {i : Nat} (hi : i < n) : w.cell? ⟨blk, i, none⟩ = some (.int .i64 (d i)) := (h.here.cell i).trans (rowC_get hi)
theorem RowW.free (h : RowW w0 blk n t d w) (i : Nat) : w.frozen? ⟨blk, i, none⟩ = false := h.here.free i
theorem RowW.past (h : RowW w0 blk n t d w) (hb : Below w.heap.size w w') : RowW w0 blk n t d w' := ⟨h.here.past hb, h.low.trans (hb.mono (Nat.le_of_lt h.lt))⟩
theorem RowW.set (h : RowW w0 blk n t d w) (i v : Nat) : RowW w0 blk n t (fun k => if k = i then v else d k) (w.setCell ⟨blk, i, none⟩ (.int .i64 v)) :=
  ⟨by rw [← rowC_set]; exact h.here.set i _, h.low.setCell (Nat.le_refl _) _⟩
theorem RowW.swap (h : RowW w0 blk n t d w) (i j : Nat) : RowW w0 blk n t (sw d i j) ((w.setCell ⟨blk, i, none⟩ (.int .i64 (d j))).setCell ⟨blk, j, none⟩ (.int .i64 (d i))) :=
  ⟨by rw [← rowC_swap]; exact (h.here.set i _).set j _, (h.low.setCell (Nat.le_refl _) _).setCell (Nat.le_refl _) _⟩
theorem RowW.drew (h : RowW w0 blk n t d w) : RowW w0 blk n t d w.drew := ⟨h.here.drew 1, h.low.drew⟩
theorem RowW.ext (h : RowW w0 blk n t d w) {d' : Nat → Nat} (e : d = d') : RowW w0 blk n t d' w := e ▸ h
/-- Behind the first store the second place still reads. -/
theorem RowW.c2 (h : RowW w0 blk n t d w) (i j : Nat) (hj : j < n) (v : Nat) : (w.setCell ⟨blk, i, none⟩ (.int .i64 v)).cell? ⟨blk, j, none⟩ = some (.int .i64 ((if j = i then v else d j : Nat))) :=
  (h.set i v).cell hj
end Go.Proofs.YtioalnncjahlnaaGreatDoor

namespace Go.Proofs.YtioalnncjahlnaaGreatDoor
open Go.ChangeShapes Go.WideShapes Go.ChangeAt Go.RowKit

theorem rowC_setT {n : Nat} {d : Nat → Nat} (tl : Array Value) (i v : Nat) : ∃ tl', (rowC n d ++ tl).setIfInBounds i (.int .i64 v) = rowC n (fun k => if k = i then v else d k) ++ tl' := by
  by_cases h : i < n
  · refine ⟨tl, ?_⟩
    rw [← rowC_set]
    apply Array.ext_getElem?
    intro k
    rw [Array.getElem?_setIfInBounds, Array.getElem?_append, Array.getElem?_append]
    simp only [Array.size_append, rowC_size, Array.size_setIfInBounds]
    by_cases c : i = k
    · subst c
      rw [if_pos rfl, if_pos (by omega), if_pos h, Array.getElem?_setIfInBounds, if_pos rfl, if_pos (by rw [rowC_size]; exact h)]
    · rw [if_neg c, Array.getElem?_setIfInBounds, if_neg c]
  · refine ⟨tl.setIfInBounds (i - n) (.int .i64 v), ?_⟩
    have e : rowC n (fun k => if k = i then v else d k) = rowC n d := rowC_ext fun k hk => by rw [if_neg (by omega)]
    rw [e]
    apply Array.ext_getElem?
    intro k
    rw [Array.getElem?_setIfInBounds, Array.getElem?_append, Array.getElem?_append]
    simp only [Array.size_append, rowC_size, Array.getElem?_setIfInBounds]
    by_cases c : i = k
    · subst c
      rw [if_pos rfl, if_neg h, if_pos rfl]
      by_cases q : i - n < tl.size
      · rw [if_pos (by omega), if_pos q]
      · rw [if_neg (by omega), if_neg q]
    · rw [if_neg c]
      by_cases q : k < n
      · rw [if_pos q, if_pos q]
      · rw [if_neg q, if_neg q, if_neg (by omega)]
/-- A world of the sort's: the row holds d; what lies below it is as it was. -/
structure RowX (w0 : World) (blk n : Nat) (t : TypeId) (d : Nat → Nat) (w : World) : Prop where
  here : ∃ tl : Array Value, Blk w blk (rowC n d ++ tl) t
  low : Below blk w0 w
section
variable {w0 w w' : World} {blk n : Nat} {t : TypeId} {d : Nat → Nat}
theorem RowX.lt (h : RowX w0 blk n t d w) : blk < w.heap.size := by obtain ⟨tl, q⟩ := h.here; exact q.lt
theorem RowX.cell (h : RowX w0 blk n t d w) {i : Nat} (hi : i < n) : w.cell? ⟨blk, i, none⟩ = some (.int .i64 (d i)) := by
  obtain ⟨tl, q⟩ := h.here
  rw [q.cell i, Array.getElem?_append_left (by rw [rowC_size]; exact hi)]; exact rowC_get hi
theorem RowX.free (h : RowX w0 blk n t d w) (i : Nat) : w.frozen? ⟨blk, i, none⟩ = false := by obtain ⟨tl, q⟩ := h.here; exact q.free i
theorem RowX.past (h : RowX w0 blk n t d w) (hb : Below w.heap.size w w') : RowX w0 blk n t d w' := by
  obtain ⟨tl, q⟩ := h.here
  exact ⟨⟨tl, q.past hb⟩, h.low.trans (hb.mono (Nat.le_of_lt q.lt))⟩
theorem RowX.set (h : RowX w0 blk n t d w) (i v : Nat) : RowX w0 blk n t (fun k => if k = i then v else d k) (w.setCell ⟨blk, i, none⟩ (.int .i64 v)) := by
  obtain ⟨tl, q⟩ := h.here
  obtain ⟨tl', e⟩ := rowC_setT (n := n) (d := d) tl i v
  exact ⟨⟨tl', by rw [← e]; exact q.set i _⟩, h.low.setCell (Nat.le_refl _) _⟩
theorem RowX.ext (h : RowX w0 blk n t d w) {d' : Nat → Nat} (e : d = d') : RowX w0 blk n t d' w := e ▸ h
theorem RowX.swap (h : RowX w0 blk n t d w) (i j : Nat) : RowX w0 blk n t (sw d i j) ((w.setCell ⟨blk, i, none⟩ (.int .i64 (d j))).setCell ⟨blk, j, none⟩ (.int .i64 (d i))) := by
  refine ((h.set i (d j)).set j (d i)).ext (funext fun k => ?_)
  unfold sw
  by_cases c1 : k = j
  · by_cases c2 : k = i
    · rw [if_pos c1, if_pos c2, ← c1, ← c2]
    · rw [if_pos c1, if_neg c2, if_pos c1]
  · rw [if_neg c1, if_neg c1]
theorem RowX.drew (h : RowX w0 blk n t d w) : RowX w0 blk n t d w.drew := by
  obtain ⟨tl, q⟩ := h.here
  exact ⟨⟨tl, q.drew 1⟩, h.low.drew⟩
/-- Behind the first store the second place still reads. -/
theorem RowX.c2 (h : RowX w0 blk n t d w) (i j : Nat) (hj : j < n) (v : Nat) : (w.setCell ⟨blk, i, none⟩ (.int .i64 v)).cell? ⟨blk, j, none⟩ = some (.int .i64 ((if j = i then v else d j : Nat))) :=
  (h.set i v).cell hj
end
end Go.Proofs.YtioalnncjahlnaaGreatDoor

namespace Go.Proofs.YtioalnncjahlnaaGreatDoor
open Go.ChangeShapes Go.WideShapes Go.ChangeAt Go.RowKit
attribute [local irreducible] Go.Calls

/-- Less, alike, more: -1, 0, 1. -/
def cmpI (a b : Int) : Int := if a < b then -1 else if b < a then 1 else 0
theorem cmpI_neg {a b : Int} : decide (cmpI a b < 0) = decide (a < b) := by unfold cmpI; split <;> simp_all; split <;> simp_all
/-- In whatever world of the sort's the comparison answers by the key, and only makes memory. -/
def Cmps (w0 : World) (blk n : Nat) (recv : Value) (K : Nat → Int) : Prop :=
  ∀ w, Below blk w0 w → ∀ x y : Nat, x < n → y < n → Calls Tryz.prog 124 #[.int .i64 x, .int .i64 y, recv] w fun e w' => e = .returned (.int .i64 (cmpI (K x) (K y))) ∧ Below w.heap.size w w'

/-- A row of numbers below n. -/
def Okd (n : Nat) (d : Nat → Nat) : Prop := ∀ k, k < n → d k < n
theorem Okd.mv {n a b : Nat} {d d' : Nat → Nat} (h : Okd n d) (hm : Mv a b d d') (hb : b ≤ n) : Okd n d' := fun k hk => by
  by_cases c : a ≤ k ∧ k < b
  · obtain ⟨k', h1, h2, e⟩ := hm.inn k c.1 c.2
    rw [e]; exact h _ (by omega)
  · rw [hm.out k (by omega)]; exact h _ hk

/-- The stretch [a, b) has been put in order. -/
def SrtX (w0 : World) (blk n : Nat) (t : TypeId) (K : Nat → Int) (a b : Nat) (d : Nat → Nat) (e : Ending) (w' : World) : Prop :=
  e = .returned (.tuple #[]) ∧ ∃ d', RowX w0 blk n t d' w' ∧ Mv a b d d' ∧ Inv K n d' ∧ Srt K a b d'

theorem cmp_t {K : Nat → Int} {x y : Nat} (h : K x < K y) : decide (cmpI (K x) (K y) < 0) = true := by rw [cmpI_neg]; exact decide_eq_true h
theorem cmp_f {K : Nat → Int} {x y : Nat} (h : ¬ K x < K y) : decide (cmpI (K x) (K y) < 0) = false := by rw [cmpI_neg]; exact decide_eq_false h

set_option maxRecDepth 100000 in
set_option maxHeartbeats 4000000 in
theorem insertion_c (w0 w : World) (blk n cap a b : Nat) (t : TypeId) (K : Nat → Int) (recv : Value) (d : Nat → Nat) (h : RowX w0 blk n t d w) (hC : Cmps w0 blk n recv K) (hI : Inv K n d) (hO : Okd n d) (hab : a ≤ b) (hb : b ≤ n) (hn : n ≤ 4611686018427387904) :
    Calls Tryz.prog 139 #[.slice (some ⟨blk, 0, none⟩) n cap, .int .i64 a, .int .i64 b, .func (.func 124) #[] #[recv]] w (SrtX w0 blk n t K a b d) := by
  have H := hidE h; have HC := hidE hC; have HI := hidE hI; have HO := hidE hO
  clear h hC hI hO
  go_enter Tryz.func139, Tryz.ntmps139
  go_wp2
  go_loopg [8] (b - a) (fun g1 vi wr => ∃ (i : Nat) (dk : Nat → Nat), vi = .int .i64 i ∧ a < i ∧ b - i ≤ g1 ∧ (i ≤ b ∨ i = a + 1) ∧ RowX w0 blk n t dk wr ∧ Mv a b d dk ∧ Inv K n dk ∧ Srt K a i dk)
  case atStart => exact ⟨a + 1, d, by go_num, by omega, by omega, by omega, H.out, Mv.refl _ _ _, HI.out, srt_one _ _ _ (by omega)⟩
  case round =>
    obtain ⟨i, dk, rfl, hai, hg1, hib, hr, hm, hi, hs⟩ := hrel
    have HR := hidE hr; have HM := hidE hm; have HJ := hidE hi; have HS := hidE hs
    clear hr hm hi hs
    by_cases hlt : i < b
    · have hltz : (i : Int) < (b : Int) := by omega
      obtain ⟨wo, rfl⟩ : ∃ wo : World, wo = wr := ⟨_, rfl⟩
      go_wp2
      go_loopg [9] i (fun g2 vj wr2 => ∃ (j : Nat) (dj : Nat → Nat), vj = .int .i64 j ∧ a ≤ j ∧ j ≤ i ∧ j ≤ g2 ∧ RowX w0 blk n t dj wr2 ∧ Mv a b d dj ∧ Inv K n dj ∧ InsR K a i j dj)
      case atStart => exact ⟨i, dk, rfl, by omega, Nat.le_refl _, Nat.le_refl _, HR.out, HM.out, HJ.out, InsR.start HS.out⟩
      case round =>
        clear HR HM HJ HS
        obtain ⟨j, dj, rfl, haj, hji, hg2, hr, hm, hi, hs⟩ := hrel
        have HR := hidE hr; have HM := hidE hm; have HJ := hidE hi; have HS := hidE hs
        have hok := HO.out.mv hm hb
        clear hr hm hi hs
        by_cases hja : a < j
        · obtain ⟨jp, rfl⟩ : ∃ q, j = q + 1 := ⟨j - 1, by omega⟩
          have hjd : decide ((a : Int) < (jp : Int) + 1) = true := decide_eq_true (by omega)
          have c1 := HR.out.cell (i := jp + 1) (by omega)
          have c2 := HR.out.cell (i := jp) (by omega)
          have z := HR.out.lt
          have k1 := hok (jp + 1) (by omega)
          have k2 := hok jp (by omega)
          have HCM := hidE (fun w hw => HC.out w hw (dj (jp + 1)) (dj jp) k1 k2)
          clear hok
          by_cases hkey : K (dj (jp + 1)) < K (dj jp)
          · have hd := cmp_t hkey
            have HX := hidE (⟨(HJ.out.swap' jp (by omega) hkey), (HM.out.trans (Mv.swap dj (jp + 1) jp (by omega) (by omega))), (HS.out.step (by omega) (by omega) hkey)⟩ : Inv K n (sw dj (jp + 1) jp) ∧ Mv a b d (sw dj (jp + 1) jp) ∧ InsR K a i jp (sw dj (jp + 1) jp))
            clear hkey HM HJ HS
            have HE := hidE (fun (w : World) (h : RowX w0 blk n t dj w) => (h.swap (jp + 1) jp).drew)
            have HF := hidE (fun (w : World) (h : RowX w0 blk n t dj w) => h.c2 (jp + 1) jp (by omega) (dj jp))
            generalize hx : dj (jp + 1) = x at *
            generalize hy : dj jp = y at *
            go_wp2_with fail
            refine wp_region_past_lit (by kernel_rfl) (by kernel_rfl) ?_
            have hc := Past.cell (W := wr)
            repeat (go_big_quiet_step ((go_at_call 124; exact Past.call _ (HCM.out _ (HR.out.low.trans ((Past.prop _).mono (Nat.le_of_lt z)))))))
            refine wpQuiet_nil ?_
            rintro _ ⟨x', rfl⟩
            have hr2 := HR.out.past x'.2
            clear c1 c2 hc
            generalize x'.1 = w2 at hr2 ⊢
            have g1 := hr2.cell (i := jp + 1) (by omega)
            have g2 := hr2.cell (i := jp) (by omega)
            have g3 := HF.out _ hr2
            have f1 := hr2.free (jp + 1)
            have f2 := hr2.free jp
            have hE := HE.out _ hr2
            rw [if_neg (by omega)] at g3
            rw [hx] at g1
            rw [hy] at g2
            have HE2 := hidE hE; have Hx := hidE hx; have Hy := hidE hy
            clear hE hr2 hx hy
            go_wp2_with fail
            go_region
            go_wp2
            go_roundg jp
            case measure => omega
            case rel => exact ⟨jp, _, by go_num, by omega, by omega, Nat.le_refl _, HE2.out, HX.out.2.1, HX.out.1, HX.out.2.2⟩
          · have hd := cmp_f hkey
            have HX := hidE (HS.out.done HJ.out (by omega) haj hji (.inr hkey))
            clear hkey
            generalize hx : dj (jp + 1) = x at *
            generalize hy : dj jp = y at *
            have Hx := hidE hx; have Hy := hidE hy
            clear hx hy
            go_wp2_with fail
            refine wp_region_past_lit (by kernel_rfl) (by kernel_rfl) ?_
            have hc := Past.cell (W := wr)
            repeat (go_big_quiet_step ((go_at_call 124; exact Past.call _ (HCM.out _ (HR.out.low.trans ((Past.prop _).mono (Nat.le_of_lt z)))))))
            refine wpQuiet_nil ?_
            rintro _ ⟨x', rfl⟩
            have hr2 := HR.out.past x'.2
            clear c1 c2 hc
            generalize x'.1 = w2 at hr2 ⊢
            have HR2 := hidE hr2; clear hr2
            go_wp2
            go_roundg (b - (i + 1))
            case measure => omega
            case rel => exact ⟨i + 1, _, by go_num, by omega, by omega, by omega, HR2.out, HM.out, HJ.out, HX.out⟩
        · have hja' : j = a := by omega
          subst hja'
          have HX := hidE (HS.out.done HJ.out (by omega) haj hji (.inl rfl))
          have hd : ¬ (j : Int) < (j : Int) := by omega
          go_wp2_with fail
          refine wp_region_past_lit (by kernel_rfl) (by kernel_rfl) ?_
          repeat (go_big_quiet_step (fail))
          refine wpQuiet_nil ?_
          rintro _ ⟨x', rfl⟩
          have hr2 := HR.out.past x'.2
          generalize x'.1 = w2 at hr2 ⊢
          have HR2 := hidE hr2; clear hr2
          go_wp2
          go_roundg (b - (i + 1))
          case measure => omega
          case rel => exact ⟨i + 1, _, by go_num, by omega, by omega, by omega, HR2.out, HM.out, HJ.out, HX.out⟩
    · go_wp2
      go_end0
      exact ⟨rfl, dk, HR.out, HM.out, HJ.out, HS.out.mono (Nat.le_refl _) (by omega)⟩
set_option maxRecDepth 100000 in
theorem insertion_eq {w0 w : World} {blk n cap a b : Nat} {x y : Int} {t : TypeId} {K : Nat → Int} {recv : Value} {d : Nat → Nat} (h : RowX w0 blk n t d w) (hC : Cmps w0 blk n recv K) (hI : Inv K n d) (hO : Okd n d) (hx : x = a) (hy : y = b) (hab : a ≤ b) (hb : b ≤ n) (hn : n ≤ 4611686018427387904) :
    Calls Tryz.prog 139 #[.slice (some ⟨blk, 0, none⟩) n cap, .int .i64 x, .int .i64 y, .func (.func 124) #[] #[recv]] w (SrtX w0 blk n t K a b d) := by
  subst hx hy; exact insertion_c w0 w blk n cap a b t K recv d h hC hI hO hab hb hn
set_option maxRecDepth 100000 in
set_option maxHeartbeats 8000000 in
theorem stable_c (w0 w : World) (blk n cap : Nat) (t : TypeId) (K : Nat → Int) (recv : Value) (d : Nat → Nat) (h : RowX w0 blk n t d w) (hC : Cmps w0 blk n recv K) (hI : Inv K n d) (hO : Okd n d) (hn : n < 20) :
    Calls Tryz.prog 129 #[.slice (some ⟨blk, 0, none⟩) n cap, .int .i64 n, .func (.func 124) #[] #[recv]] w (SrtX w0 blk n t K 0 n d) := by
  have H := hidE h; have HC := hidE hC; have HI := hidE hI; have HO := hidE hO
  clear h hC hI hO
  go_enter Tryz.func129, Tryz.ntmps129
  go_wp2
  go_loopg [7, 8] 0 (fun g1 va vb wr => va = .int .i64 0 ∧ vb = .int .i64 20 ∧ wr = w)
  case atStart => exact ⟨rfl, rfl, rfl⟩
  case round =>
    obtain ⟨rfl, rfl, rfl⟩ := hrel
    have hltz : ¬ (20 : Int) ≤ (n : Int) := by omega
    go_wp2_with (go_at_call 139; ((with_reducible refine (insertion_eq (a := 0) (b := n) H.out HC.out HI.out HO.out Int.natCast_zero.symm rfl (by omega) (by omega) (by omega)).mono ?_); rintro e w1 ⟨rfl, d1, hr1, hm1, hi1, hs1⟩))
    have R1 := hidE hr1; have M1 := hidE hm1; have I1 := hidE hi1; have S1 := hidE hs1
    clear hr1 hm1 hi1 hs1
    go_loopg [6] 0 (fun g2 vs wr2 => vs = .int .i64 20 ∧ wr2 = w1)
    case atStart => exact ⟨rfl, rfl⟩
    case round =>
      obtain ⟨rfl, rfl⟩ := hrel
      have hltz : ¬ (20 : Int) < (n : Int) := by omega
      go_wp2
      go_end0
      exact ⟨rfl, d1, R1.out, M1.out, I1.out, S1.out⟩
set_option maxRecDepth 100000 in
theorem sortStable_c (w0 w : World) (blk n cap : Nat) (t : TypeId) (K : Nat → Int) (recv : Value) (d : Nat → Nat) (h : RowX w0 blk n t d w) (hC : Cmps w0 blk n recv K) (hI : Inv K n d) (hO : Okd n d) (hn : n < 20) :
    Calls Tryz.prog 103 #[.slice (some ⟨blk, 0, none⟩) n cap, .func (.func 124) #[] #[recv]] w (SrtX w0 blk n t K 0 n d) := by
  have HK := hidE (stable_c w0 w blk n cap t K recv d h hC hI hO hn)
  clear h hC hI hO
  go_enter Tryz.func103, Tryz.ntmps103
  go_wp2_with (go_at_call 129; ((with_reducible refine (HK.out).mono ?_); rintro e w1 ⟨rfl, hx⟩))
  go_end0
  exact ⟨rfl, hx⟩
end Go.Proofs.YtioalnncjahlnaaGreatDoor

namespace Go.Proofs.YtioalnncjahlnaaGreatDoor

theorem ltB_pre : ∀ (h a b : List UInt8), ltB (h ++ a) (h ++ b) = ltB a b
  | [], _, _ => rfl
  | c :: h, a, b => by simp [ltB, ltB_pre h a b]
/-- How many of them come ahead of a text. -/
def rk (l : List (List UInt8)) (s : List UInt8) : Nat := l.countP fun u => ltB u s
theorem cnt_lt {α : Type} {p q : α → Bool} : ∀ {l : List α}, (∀ u ∈ l, p u = true → q u = true) → (∃ a ∈ l, q a = true ∧ p a = false) → l.countP p < l.countP q
  | [], _, ⟨a, ha, _⟩ => by cases ha
  | u :: l, h, ⟨a, ha, h1, h2⟩ => by
    have hle : l.countP p ≤ l.countP q := List.countP_mono_left fun x hx => h x (List.mem_cons_of_mem _ hx)
    rw [List.countP_cons, List.countP_cons]
    rcases List.mem_cons.1 ha with rfl | ha
    · rw [h1, h2]; simp; omega
    · have ih := cnt_lt (fun x hx => h x (List.mem_cons_of_mem _ hx)) ⟨a, ha, h1, h2⟩
      have := h u (by simp)
      by_cases c : p u = true
      · rw [if_pos c, if_pos (this c)]; omega
      · rw [if_neg c]; split <;> omega
theorem rk_lt {l : List (List UInt8)} {a b : List UInt8} (ha : a ∈ l) (h : ltB a b = true) : rk l a < rk l b :=
  cnt_lt (fun u _ hu => ltB_trans u a b hu h) ⟨a, ha, h, ltB_irr a⟩
theorem rk_iff {l : List (List UInt8)} {a b : List UInt8} (ha : a ∈ l) (hb : b ∈ l) : (rk l a < rk l b ↔ ltB a b = true) ∧ (rk l a = rk l b ↔ a = b) := by
  cases h1 : ltB a b with
  | true =>
    have := rk_lt ha h1
    exact ⟨by simp [this], ⟨fun e => by omega, fun e => by subst e; omega⟩⟩
  | false =>
    cases h2 : ltB b a with
    | true =>
      have := rk_lt hb h2
      exact ⟨by simp; omega, ⟨fun e => by omega, fun e => by subst e; omega⟩⟩
    | false =>
      have := ltB_total a b h1 h2
      subst this
      exact ⟨by simp, by simp⟩
/-- Terms with their places. -/
def numL : Nat → List Tm → List (Tm × Nat)
  | _, [] => []
  | o, t :: l => (t, o) :: numL (o + 1) l
def insP (p : Tm × Nat) : List (Tm × Nat) → List (Tm × Nat)
  | [] => [p]
  | u :: l => if ltB (txT p.1) (txT u.1) then p :: u :: l else u :: insP p l
theorem insP_fst (p : Tm × Nat) : ∀ l, (insP p l).map (·.1) = insG p.1 (l.map (·.1))
  | [] => rfl
  | u :: l => by
    simp only [insP, List.map_cons, insG]
    split
    · rfl
    · rw [List.map_cons, insP_fst p l]
theorem insP_mem (p q : Tm × Nat) : ∀ l, q ∈ insP p l → q = p ∨ q ∈ l
  | [], h => by simpa [insP] using h
  | u :: l, h => by
    rw [insP] at h
    split at h
    · simpa using h
    · rcases List.mem_cons.1 h with rfl | h
      · exact .inr (by simp)
      · rcases insP_mem p q l h with rfl | h
        · exact .inl rfl
        · exact .inr (List.mem_cons_of_mem _ h)
theorem insP_perm (p : Tm × Nat) : ∀ l, (insP p l).Perm (p :: l)
  | [] => List.Perm.refl _
  | u :: l => by
    rw [insP]
    split
    · exact List.Perm.refl _
    · exact ((insP_perm p l).cons u).trans (List.Perm.swap p u l)
/-- By text, then by place. -/
def RP (p q : Tm × Nat) : Prop := ltB (txT p.1) (txT q.1) = true ∨ (txT p.1 = txT q.1 ∧ p.2 < q.2)
theorem RP.anti {p q : Tm × Nat} (h : RP p q) (h2 : RP q p) : False := by
  rcases h with h | ⟨h, a⟩
  · rcases h2 with h2 | ⟨h2, _⟩
    · have := ltB_trans _ _ _ h h2; rw [ltB_irr] at this; cases this
    · rw [h2, ltB_irr] at h; cases h
  · rcases h2 with h2 | ⟨_, b⟩
    · rw [h, ltB_irr] at h2; cases h2
    · omega
theorem insP_srt (p : Tm × Nat) : ∀ l : List (Tm × Nat), l.Pairwise RP → (∀ q ∈ l, q.2 < p.2) → (insP p l).Pairwise RP
  | [], _, _ => List.pairwise_singleton _ _
  | u :: l, h, hp => by
    obtain ⟨h1, h2⟩ := List.pairwise_cons.1 h
    rw [insP]
    split
    · rename_i c
      refine List.pairwise_cons.2 ⟨fun q hq => ?_, h⟩
      rcases List.mem_cons.1 hq with rfl | hq
      · exact .inl c
      · rcases h1 q hq with g | ⟨g, _⟩
        · exact .inl (ltB_trans _ _ _ c g)
        · exact .inl (by rw [← g]; exact c)
    · rename_i c
      refine List.pairwise_cons.2 ⟨fun q hq => ?_, insP_srt p l h2 fun q hq => hp q (List.mem_cons_of_mem _ hq)⟩
      rcases insP_mem p q l hq with rfl | hq
      · cases g : ltB (txT u.1) (txT q.1) with
        | true => exact .inl g
        | false => exact .inr ⟨ltB_total _ _ g (by simpa using c), hp u (by simp)⟩
      · exact h1 q hq
theorem foldP_fst : ∀ (l a : List (Tm × Nat)), (l.foldl (fun a p => insP p a) a).map (·.1) = (l.map (·.1)).foldl (fun a t => insG t a) (a.map (·.1))
  | [], a => rfl
  | p :: l, a => by simp only [List.foldl_cons, List.map_cons, foldP_fst l, insP_fst]
theorem foldP_perm : ∀ (l a : List (Tm × Nat)), (l.foldl (fun a p => insP p a) a).Perm (l ++ a)
  | [], a => List.Perm.refl _
  | p :: l, a => by
    rw [List.foldl_cons]
    exact (foldP_perm l (insP p a)).trans (((insP_perm p a).append_left l).trans List.perm_middle)
theorem foldP_srt : ∀ (l : List Tm) (o : Nat) (a : List (Tm × Nat)), a.Pairwise RP → (∀ q ∈ a, q.2 < o) → ((numL o l).foldl (fun a p => insP p a) a).Pairwise RP
  | [], _, a, h, _ => h
  | t :: l, o, a, h, hp => by
    refine foldP_srt l (o + 1) _ (insP_srt (t, o) a h hp) fun q hq => ?_
    rcases insP_mem _ _ _ hq with rfl | hq
    · exact Nat.lt_succ_self _
    · have := hp q hq; omega
theorem numL_fst : ∀ (l : List Tm) (o : Nat), (numL o l).map (·.1) = l
  | [], _ => rfl
  | t :: l, o => by simp only [numL, List.map_cons, numL_fst l]
theorem numL_range : ∀ (l : List Tm) (o : Nat), numL o l = (List.range l.length).map fun i => (l.getD i tm0, o + i)
  | [], _ => rfl
  | t :: l, o => by
    rw [numL, numL_range l, List.length_cons, List.range_succ_eq_map, List.map_cons, List.map_map]
    congr 1
    refine List.map_congr_left fun i _ => ?_
    simp only [Function.comp, List.getD_cons_succ, Prod.mk.injEq, true_and]; omega
theorem mv_perm {n : Nat} {d : Nat → Nat} (h : Mv 0 n id d) : ((List.range n).map d).Perm (List.range n) := by
  obtain ⟨p, q, h1, h2, h3, h4⟩ := h
  have hd : ∀ k, d k = p k := h1
  have hp : ∀ k, k < n → p k < n := fun k hk => by
    refine Nat.lt_of_not_le fun c => ?_
    have e := h4 (p k) (.inr c)
    have : p k = k := by rw [← h3 (p k), e, h3]
    omega
  have hq : ∀ k, k < n → q k < n := fun k hk => by
    refine Nat.lt_of_not_le fun c => ?_
    have e := h4 (q k) (.inr c)
    rw [h2] at e; omega
  have hnd : ((List.range n).map d).Nodup := by
    refine List.Pairwise.map d (R := (· ≠ ·)) (fun a b hab e => hab ?_) List.nodup_range
    rw [hd, hd] at e
    rw [← h3 a, e, h3]
  refine (List.perm_ext_iff_of_nodup hnd List.nodup_range).2 fun a => ?_
  simp only [List.mem_map, List.mem_range]
  exact ⟨fun ⟨k, hk, e⟩ => by rw [← e, hd]; exact hp k hk, fun ha => ⟨q a, hq a ha, by rw [hd, h2]⟩⟩
/-- A stable order of the places is the rules' order of the terms. -/
theorem sort_is {L : List Tm} {n : Nat} (hn : L.length = n) {d : Nat → Nat} (hm : Mv 0 n id d) {K : Nat → Int}
    (hK : ∀ i j, i < n → j < n → (K i < K j ↔ ltB (txT (L.getD i tm0)) (txT (L.getD j tm0)) = true) ∧ (K i = K j ↔ txT (L.getD i tm0) = txT (L.getD j tm0)))
    (hS : Srt K 0 n d) : (List.range n).map (fun k => L.getD (d k) tm0) = sortG L := by
  have hp := mv_perm hm
  have hlt : ∀ k, k < n → d k < n := fun k hk => by
    have := hp.mem_iff.1 (List.mem_map.2 ⟨k, List.mem_range.2 hk, rfl⟩)
    exact List.mem_range.1 this
  have e1 : ((numL 0 L).foldl (fun a p => insP p a) []).map (·.1) = sortG L := by rw [foldP_fst, numL_fst]; rfl
  have e2 : ((List.range n).map fun k => (L.getD (d k) tm0, d k)) = (numL 0 L).foldl (fun a p => insP p a) [] := by
    refine List.Perm.eq_of_pairwise (le := RP) (fun a b _ _ h1 h2 => (h1.anti h2).elim) ?_ (foldP_srt L 0 [] List.Pairwise.nil (fun q h => by cases h)) ?_
    · rw [List.pairwise_map]
      refine List.Pairwise.imp_of_mem (R := (· < ·)) (fun {a b} ha hb hab => ?_) List.pairwise_lt_range
      have ha := List.mem_range.1 ha; have hb := List.mem_range.1 hb
      obtain ⟨k1, k2⟩ := hK (d a) (d b) (hlt a ha) (hlt b hb)
      rcases hS a b (Nat.zero_le _) hab hb with h | ⟨h, h'⟩
      · exact .inl (k1.1 h)
      · exact .inr ⟨k2.1 h, h'⟩
    · refine List.Perm.trans ?_ (foldP_perm _ _).symm
      rw [List.append_nil, numL_range, hn]
      simp only [Nat.zero_add]
      have := hp.map fun i => (L.getD i tm0, i)
      rw [List.map_map] at this
      exact this
  rw [← e1, ← e2, List.map_map]; rfl
/-- The texts are in order just if sorting leaves them. -/
theorem srt_iff (L : List Tm) : (∀ i, 0 < i → i < L.length → ltB (txT (L.getD i tm0)) (txT (L.getD (i - 1) tm0)) = false) ↔ srtB L = true := by
  unfold srtB
  rw [decide_eq_true_iff]
  constructor
  · intro h
    have hs : SrtL L := by
      have key : ∀ (j i : Nat), i < j → j < L.length → ltB (txT (L.getD j tm0)) (txT (L.getD i tm0)) = false := by
        intro j
        induction j with
        | zero => intro i h1; omega
        | succ j ih =>
          intro i h1 h2
          have h3 := h (j + 1) (by omega) h2
          rw [Nat.add_sub_cancel] at h3
          by_cases c : i = j
          · subst c; exact h3
          · exact leB_trans (ih i (by omega) (by omega)) h3
      refine List.pairwise_iff_getElem.2 fun i j hi hj hij => ?_
      have := key j i hij hj
      rw [List.getD_eq_getElem?_getD, List.getD_eq_getElem?_getD, List.getElem?_eq_getElem hi, List.getElem?_eq_getElem hj] at this
      exact this
    rw [sortG_fix hs]
  · intro h i h1 h2
    have hs := sortG_srt L
    have hl := (sortG_siz L).2
    have := List.pairwise_iff_getElem.1 hs (i - 1) i (by omega) (by omega) (by omega)
    have g : ∀ j (hj : j < L.length), txT (L.getD j tm0) = txT ((sortG L)[j]'(by omega)) := fun j hj => by
      have := congrArg (fun l => l[j]?) h
      simp only [List.getElem?_map, List.getElem?_eq_getElem hj, List.getElem?_eq_getElem (show j < (sortG L).length by omega), Option.map_some, Option.some.injEq] at this
      rw [List.getD_eq_getElem?_getD, List.getElem?_eq_getElem hj]; exact this
    rw [g i h2, g (i - 1) (by omega)]; exact this
end Go.Proofs.YtioalnncjahlnaaGreatDoor

namespace Go.Proofs.YtioalnncjahlnaaGreatDoor
open Go.ChangeShapes Go.WideShapes Go.ChangeAt Go.RowKit
attribute [local irreducible] Go.Calls

set_option maxHeartbeats 2000000 in
set_option maxRecDepth 100000 in
theorem scmp_c (l : List (List UInt8)) (v : Value) (q x y : Nat) (w : World) (h : SliZ w v l) (hl : l.length ≤ 100000) (hq : w.cell? ⟨q, 0, none⟩ = some v) (hqz : q < w.heap.size) (hx : x < l.length) (hy : y < l.length) :
    Calls Tryz.prog 124 #[.int .i64 x, .int .i64 y, .pointer (some ⟨q, 0, none⟩)] w fun e w' => e = .returned (.int .i64 (cmpB (l.getD x []) (l.getD y []))) ∧ Below w.heap.size w w' := by
  obtain ⟨a, cap, rfl, h1, h2, h3⟩ := h
  obtain ⟨b, off, rfl, hb, hc⟩ := h3 (by omega)
  have c1 := hc x hx; have c2 := hc y hy
  generalize l.getD x [] = s at *
  generalize l.getD y [] = s' at *
  have hxz : (x : Int) < l.length := by omega
  have hyz : (y : Int) < l.length := by omega
  clear hc h3
  go_enter Tryz.func124, Tryz.ntmps124
  go_wp2
  refine wp_region_past_lit (by kernel_rfl) (by kernel_rfl) ?_
  have hcp := Past.cell (W := w)
  repeat (go_big_quiet_step ((go_at_call 125; exact Past.same _ (compareS_c _ _ _))))
  refine wpQuiet_nil ?_
  rintro _ ⟨x', rfl⟩
  have hb2 := x'.2
  generalize x'.1 = w2 at *
  go_wp2
  go_ret
  exact ⟨rfl, hb2⟩
/-- The places' keys. -/
def keyK (L : List Tm) (i : Nat) : Int := rk (L.map txN) (txN (L.getD i tm0))
theorem getD_txN {L : List Tm} {i : Nat} (h : i < L.length) : (L.map txN).getD i [] = txN (L.getD i tm0) ∧ txN (L.getD i tm0) ∈ L.map txN := by
  have e : (L.map txN).getD i [] = txN (L.getD i tm0) := by
    rw [List.getD_eq_getElem?_getD, List.getD_eq_getElem?_getD, List.getElem?_map, List.getElem?_eq_getElem h]; rfl
  refine ⟨e, List.mem_map.2 ⟨L.getD i tm0, ?_, rfl⟩⟩
  rw [List.getD_eq_getElem?_getD, List.getElem?_eq_getElem h]; exact List.getElem_mem h
theorem txN_lt (u v : Tm) : ltB (txN u) (txN v) = ltB (txT u) (txT v) := ltB_pre _ _ _
theorem txN_eq {u v : Tm} : txN u = txN v ↔ txT u = txT v := ⟨fun h => List.append_cancel_left h, fun h => by unfold txN; rw [h]⟩
theorem keyK_iff {L : List Tm} {i j : Nat} (hi : i < L.length) (hj : j < L.length) : (keyK L i < keyK L j ↔ ltB (txT (L.getD i tm0)) (txT (L.getD j tm0)) = true) ∧ (keyK L i = keyK L j ↔ txT (L.getD i tm0) = txT (L.getD j tm0)) := by
  obtain ⟨a, b⟩ := rk_iff (getD_txN hi).2 (getD_txN hj).2
  unfold keyK
  exact ⟨by rw [← txN_lt, ← a]; omega, by rw [← txN_eq, ← b]; omega⟩
theorem keyK_cmp {L : List Tm} {i j : Nat} (hi : i < L.length) (hj : j < L.length) : cmpB ((L.map txN).getD i []) ((L.map txN).getD j []) = cmpI (keyK L i) (keyK L j) := by
  obtain ⟨a, b⟩ := keyK_iff hi hj
  rw [(getD_txN hi).1, (getD_txN hj).1]
  obtain ⟨c, d⟩ := cmpB_ltB (txN (L.getD i tm0)) (txN (L.getD j tm0))
  obtain ⟨c', d'⟩ := cmpB_ltB (txN (L.getD j tm0)) (txN (L.getD i tm0))
  have a' := (keyK_iff hj hi).1
  rw [txN_lt, ← a] at c
  rw [txN_eq, ← b] at d
  have hr : cmpB (txN (L.getD i tm0)) (txN (L.getD j tm0)) = -1 ∨ cmpB (txN (L.getD i tm0)) (txN (L.getD j tm0)) = 0 ∨ cmpB (txN (L.getD i tm0)) (txN (L.getD j tm0)) = 1 := by
    generalize txN (L.getD i tm0) = s
    generalize txN (L.getD j tm0) = s'
    unfold cmpB
    induction s generalizing s' with
    | nil => cases s' <;> simp [Lib.compareBytes]
    | cons a s ih =>
      cases s' with
      | nil => simp [Lib.compareBytes]
      | cons b s' =>
        rw [Lib.compareBytes]
        split
        · simp
        · split
          · simp
          · exact ih s'
  unfold cmpI
  by_cases h1 : keyK L i < keyK L j
  · rw [if_pos h1]; have := c.2 h1; omega
  · rw [if_neg h1]
    by_cases h2 : keyK L j < keyK L i
    · rw [if_pos h2]
      have n1 : ¬ cmpB (txN (L.getD i tm0)) (txN (L.getD j tm0)) < 0 := fun q => h1 (c.1 q)
      have n2 : ¬ cmpB (txN (L.getD i tm0)) (txN (L.getD j tm0)) = 0 := fun q => by have := d.1 q; omega
      omega
    · rw [if_neg h2]
      exact d.2 (by omega)
theorem sort_srt {t : Tm} {r : Bool} (h : r = true ↔ SortedZ ((toL t.2).map txN)) : r = srtB (toL t.2) := by
  have h2 := srt_iff (toL t.2)
  have h3 : SortedZ ((toL t.2).map txN) ↔ ∀ i, 0 < i → i < (toL t.2).length → ltB (txT ((toL t.2).getD i tm0)) (txT ((toL t.2).getD (i - 1) tm0)) = false := by
    unfold SortedZ
    rw [List.length_map]
    constructor
    · intro h i a b
      have := h i a b
      rw [(getD_txN b).1, (getD_txN (show i - 1 < (toL t.2).length by omega)).1, txN_lt] at this; exact this
    · intro h i a b
      rw [(getD_txN b).1, (getD_txN (show i - 1 < (toL t.2).length by omega)).1, txN_lt]; exact h i a b
  rw [h3, h2] at h
  cases r <;> cases hs : srtB (toL t.2) <;> simp_all
/-- A row of the call's own of the first numbers, as the sort takes it. -/
theorem rowX_own {w : World} {B n : Nat} {e : TypeId} {v : Value} (h : w.ownsRow B e 1 v n (cellsK .i64 (natsI (List.range n)))) (hn : 0 < n) : ∃ g cap, v = .slice (some ⟨g, 0, none⟩) n cap ∧ B ≤ g ∧ RowX w g n e id w := by
  obtain ⟨_, h2 | ⟨g, cap, cur, rfl, h3, h4, h5, h6, h7, h8⟩⟩ := h
  · omega
  · refine ⟨g, cap, rfl, h3, ⟨(cur.toList.drop n).toArray, ?_⟩, Below.refl _ _⟩
    have e1 : rowC n id = (cellsK .i64 (natsI (List.range n))).toArray := by
      unfold rowC cellsK natsI
      rw [List.map_map]; rfl
    unfold Blk
    rw [h4, e1, ← h8, Nat.mul_one]
    congr 2
    apply Array.toList_inj.1
    simp
end Go.Proofs.YtioalnncjahlnaaGreatDoor
