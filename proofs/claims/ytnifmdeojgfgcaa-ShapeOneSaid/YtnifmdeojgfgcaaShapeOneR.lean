/- A part that is handed in. No conditions. Appends of parts inside a region that draws its order. No function of the program. No conditions. The walk of the statement on one part more, or less, and on windows. No conditions but sizes, and that the slice reads as parts. ShapeOne: for every definition, part and number the statement's function answers true and leaves its arguments alone. No conditions. -/
import Derived.Test.YtnifmdeojgfgcaaP8GA
import Derived.Test.YtnifmdeojgfgcaaP8GB
import Derived.Test.YtnifmdeojgfgcaaP8MA
import Derived.Test.YtnifmdeojgfgcaaP8GC
import Derived.Deep.RegionLaw
namespace Go.Proofs.Ytnifmdeojgfgcaa
open Go.ChangeShapes Go.WideShapes Go.ChangeAt Go.RowKit

section
variable {H : Type} {enc : TypeId × Value → H} {P : Program}
theorem open_part {e tk tu ti tn : TypeId} {f0 f1 f2 f3 f4 : Field} {W : World} {cs : Array Value} {d : DataW H} {p : List MemPlace} (he : P.underlying e = some (.struct #[f0, f1, f2, f3, f4]))
    (hsz : cs.size = 5) (o0 : f0.offset = 0) (o1 : f1.offset = 1) (o2 : f2.offset = 2) (o3 : f3.offset = 3) (o4 : f4.offset = 4) (t0 : f0.type = tk) (t1 : f1.type = tu) (t2 : f2.type = tu) (t3 : f3.type = ti) (t4 : f4.type = tn)
    (ck : P.cellsOf tk = 1) (cu : P.cellsOf tu = 1) (ci : P.cellsOf ti = 1) (cn : P.cellsOf tn = 1) (hk : P.underlying tk = some (.int .u8)) (hu : P.underlying tu = some (.int .u32)) (hi : P.underlying ti = some (.int .i64)) (hn : P.underlying tn = some (.int .i64))
    (h : DataW.Trod enc P W 0 (fun _ => true) true e (.agg cs) d p) : ∃ s : Prt, Value.agg cs = prtV s ∧ PrtW s := by
  obtain ⟨fuel, hf⟩ := h
  obtain ⟨ys, n', _, _, hl1, hyl, hfs⟩ := DataW.trod_struct he hf
  have h0 := hfs 0 f0 rfl
  have h1 := hfs 1 f1 rfl
  have h2 := hfs 2 f2 rfl
  have h3 := hfs 3 f3 rfl
  have h4 := hfs 4 f4 rfl
  rw [o0, t0, ck] at h0
  rw [o1, t1, cu] at h1
  rw [o2, t2, cu] at h2
  rw [o3, t3, ci] at h3
  rw [o4, t4, cn] at h4
  obtain ⟨L⟩ := cs
  match L, hsz with
  | [c0, c1, c2, c3, c4], _ =>
    match ys, hyl with
    | [y0, y1, y2, y3, y4], _ =>
      simp [Value.cells] at h0 h1 h2 h3 h4
      obtain ⟨z0, e0, _, w0⟩ := DataW.trod_int hk h0
      obtain ⟨z1, e1, _, w1⟩ := DataW.trod_int hu h1
      obtain ⟨z2, e2, _, w2⟩ := DataW.trod_int hu h2
      obtain ⟨z3, e3, _, w3⟩ := DataW.trod_int hi h3
      obtain ⟨z4, e4, _, w4⟩ := DataW.trod_int hn h4
      simp at e0 e1 e2 e3 e4
      subst e0 e1 e2 e3 e4
      have b0 := wfU8 w0
      have b1 := wfU32 w1
      have b2 := wfU32 w2
      refine ⟨⟨z0.toNat, z1.toNat, z2.toNat, z3, z4⟩, ?_, ?_, ?_, ?_, wfI64 w3, wfI64 w4⟩
      · simp only [prtV, Int.toNat_of_nonneg b0.1, Int.toNat_of_nonneg b1.1, Int.toNat_of_nonneg b2.1]
      · show z0.toNat ≤ 255; omega
      · show z1.toNat ≤ 4294967295; omega
      · show z2.toNat ≤ 4294967295; omega
end
set_option maxRecDepth 100000 in
theorem open_prtP {H : Type} {enc : TypeId × Value → H} {W : World} {v : Value} {d : DataW H} {p : List MemPlace} {r : Reach} {b0 : Nat} (ho : Value.okWide Try.prog W r b0 42 v) (h : DataW.Trod enc Try.prog W 0 (fun _ => true) true 42 v d p) : ∃ s : Prt, v = prtV s ∧ PrtW s := by
  obtain ⟨cs, rfl, hsz⟩ := okWide_struct Try.underlying42 ho
  exact open_part (P := Try.prog) Try.underlying42 (hsz.trans cellsPart) rfl rfl rfl rfl rfl rfl rfl rfl rfl rfl cells4.1 cells4.2.1 cells4.2.2.1 cells4.2.2.2 Try.underlying5 Try.underlying40 Try.underlying2 Try.underlying3 h
end Go.Proofs.Ytnifmdeojgfgcaa

namespace Go.Proofs.Ytnifmdeojgfgcaa
open Go.ChangeShapes Go.WideShapes Go.ChangeAt Go.RowKit

theorem step_appP {P : Program} {ops : Array Oper} {o : Oper} {a : Act} {w : World} {K : Act → World → Prop} {Q : Exit → Act → World → Prop} {E : Prop}
    (hg : o.guard = none) (s x : Operand) (t : TypeId) (hop : o.op = Op.call { callee := Callee.builtin Builtin.append, args := #[s, x], argTypes := #[t, t] })
    (W0 : World) (e : TypeId) (i : TypeInfo) (z : Value) (ht : P.underlying t = some (.slice e)) (hi : P.info? e = some i) (hz : i.zero = some z) (hsize : i.size = 5) (hby : i.bytes = 32) (hzs : z.cells.size = 5)
    (v : Value) (n : Nat) (xs : List Value) (hs : a.eval s = v) (hown : w.ownsRow W0.heap.size e 5 v n xs)
    (ad : Addr) (cap m : Nat) (l : List Prt) (hx : a.eval x = .slice (some ad) m cap) (hm : l.length = m) (hc : ∀ j u, (cellsOfP l)[j]? = some u → w.cell? (ad.add j) = some u)
    (h63 : n + m ≤ 1000000) (hb : Below W0.heap.size W0 w)
    (h : ∀ v' w', w'.ownsRow W0.heap.size e 5 v' (n + m) (xs ++ cellsOfP l) → Below W0.heap.size W0 w' → (∀ k cs t, Blk w k cs t → v.ownBlock ≠ some k → Blk w' k cs t) → K (a.put o.dst v') w') :
    if Region.wanted o (yielded ops a.tmps) = true then Oper.wp P o a w K Q else E := by
  have hw : Region.wanted o (yielded ops a.tmps) = true := by simp [Region.wanted, hg]
  rw [if_pos hw]
  exact wp_append_own w s x t hop W0.heap.size e i z 5 32 ht hi hz hsize hby hzs (by decide) v n xs hs hown ad m cap (cellsOfP l) hx (by rw [cellsOfP_len, hm]) hc (cellsP_one l) (by unfold maxLen; omega) (by omega) hb.size fun v' w' h1 h2 _ =>
    h v' w' h1 (hb.grown h2 hb.size (fun k hk => own_block hown hk)) (fun k cs t hB hne => hB.grown h2 (fun e => hne e.symm))
theorem own_emptyP {w : World} {p base : Nat} {e : TypeId} (hB : Blk w p #[] e) (hp : base ≤ p) : w.ownsRow base e 5 (.slice (some ⟨p, 0, none⟩) 0 0) 0 [] :=
  ⟨rfl, .inr ⟨p, 0, #[], rfl, hp, hB, Nat.le_refl _, Nat.zero_le _, rfl, rfl⟩⟩
theorem argP_src {w : World} {p : Nat} {l : List Prt} {t : TypeId} (h : Blk w p (cellsOfP l).toArray t) : ∀ j u, (cellsOfP l)[j]? = some u → w.cell? ((⟨p, 0, none⟩ : Addr).add j) = some u := by
  refine srcP (fun i hi => ?_)
  obtain ⟨h1, h2, h3, h4, h5⟩ := cellsOfP_get l i hi
  simp only [Nat.zero_add]
  have q : ∀ j, w.cell? ⟨p, j, none⟩ = (cellsOfP l)[j]? := fun j => (h.cell j).trans (by simp)
  exact ⟨(q _).trans h1, (q _).trans h2, (q _).trans h3, (q _).trans h4, (q _).trans h5⟩
end Go.Proofs.Ytnifmdeojgfgcaa

namespace Go.Proofs.Ytnifmdeojgfgcaa
open Go.ChangeShapes Go.WideShapes Go.ChangeAt Go.RowKit
attribute [local irreducible] Go.Calls

/-- What the walk keeps: the definition and the part in their blocks, and the parts. -/
def OS (W : World) (fr to' : Int) (a : Option Addr) (l : List Prt) (cap : Nat) (x : Prt) (w : World) : Prop := Below W.heap.size W w ∧ Blk w W.heap.size #[.int .i64 fr, .int .i64 to', .slice a l.length cap] 24 ∧ Blk w (W.heap.size + 1) #[.int .u8 x.kind, .int .u32 x.n, .int .u32 x.g, .int .i64 x.d, .int .i64 x.kids] 42 ∧ ArgP w a l
section
variable {W : World} {fr to' : Int} {a : Option Addr} {l : List Prt} {cap : Nat} {x : Prt} {w w' : World}
theorem OS.past (h : OS W fr to' a l cap x w) (hb : Below w.heap.size w w') : OS W fr to' a l cap x w' := ⟨h.1.trans (hb.mono h.1.size), h.2.1.past hb, h.2.2.1.past hb, h.2.2.2.past hb⟩
theorem OS.bel (h : OS W fr to' a l cap x w) : Below W.heap.size W w := h.1
theorem OS.d (h : OS W fr to' a l cap x w) : Blk w W.heap.size #[.int .i64 fr, .int .i64 to', .slice a l.length cap] 24 := h.2.1
theorem OS.px (h : OS W fr to' a l cap x w) : Blk w (W.heap.size + 1) #[.int .u8 x.kind, .int .u32 x.n, .int .u32 x.g, .int .i64 x.d, .int .i64 x.kids] 42 := h.2.2.1
theorem OS.set (h : OS W fr to' a l cap x w) {r : Nat} (hr : W.heap.size + 1 < r) (hA : ArgP W a l) (i : Nat) (v : Value) : OS W fr to' a l cap x (w.setCell ⟨r, i, none⟩ v) := by
  have hb : Below W.heap.size W (w.setCell ⟨r, i, none⟩ v) := h.1.setCell (p := ⟨r, i, none⟩) (by show W.heap.size ≤ r; omega) _
  exact ⟨hb, h.2.1.other (by omega) _, h.2.2.1.other (by omega) _, hA.past hb⟩
theorem OS.T (h : OS W fr to' a l cap x w) : ArgP w a l := h.2.2.2
end
theorem argP_kept {w : World} {a : Option Addr} {l : List Prt} (h : ArgP w a l) {q i : Nat} (hq : ∀ bb oo, a = some ⟨bb, oo, none⟩ → bb ≠ q) (v : Value) : ArgP (w.setCell ⟨q, i, none⟩ v) a l := fun hl => by
  obtain ⟨b, off, e, h1, h2⟩ := h hl
  have hne := hq b off e
  have hc : ∀ j, (w.setCell ⟨q, i, none⟩ v).cell? ⟨b, j, none⟩ = w.cell? ⟨b, j, none⟩ := fun j => by
    unfold World.cell?
    rw [show (w.setCell ⟨q, i, none⟩ v).heap[b]? = w.heap[b]? from keptS hne v]
  refine ⟨b, off, e, by simpa [World.setCell] using h1, fun k hk => ?_⟩
  simp only [hc]
  exact h2 k hk
set_option maxRecDepth 100000 in
set_option maxHeartbeats 4000000 in
theorem shone_walk (fr to' : Int) (l : List Prt) (a : Option Addr) (cap : Nat) (x : Prt) (z : Nat) (W : World) (hl : l.length ≤ 9223372036854775807) (hlc : l.length ≤ cap) (hcap : cap ≤ 9223372036854775807) (hA : ArgP W a l) (hf : -9223372036854775808 ≤ fr ∧ fr ≤ 9223372036854775807) (ht : -9223372036854775808 ≤ to' ∧ to' ≤ 9223372036854775807) (hz : z ≤ 18446744073709551615) :
    Calls Try.prog 5 #[def8 fr to' a l.length cap, prtV x, .int .u64 z] W fun e w' => e = .returned (.bool true) ∧ Below W.heap.size W w' := by
  have HS0 := hidE (show OS W fr to' a l cap x ((W.alloc (.cells #[.int .i64 fr, .int .i64 to', .slice a l.length cap] 24)).alloc (.cells #[.int .u8 x.kind, .int .u32 x.n, .int .u32 x.g, .int .i64 x.d, .int .i64 x.kids] 42)) from ⟨by (repeat (first | exact Below.refl _ _ | assumption | refine balloc ?_ _ | refine below_drewN ?_ _ | refine bstep (by assumption) ?_ | refine bstep (Past.prop _) ?_ | refine Below.setCell ?_ (by first | exact Nat.le_refl _ | (simp; done) | (simp; omega)) _)), (Blk.made _ _ _).alloc _, Blk.made_at _ _ _ _ (by simp), hA.past (by (repeat (first | exact Below.refl _ _ | assumption | refine balloc ?_ _ | refine below_drewN ?_ _ | refine bstep (by assumption) ?_ | refine bstep (Past.prop _) ?_ | refine Below.setCell ?_ (by first | exact Nat.le_refl _ | (simp; done) | (simp; omega)) _)))⟩)
  have CH := hidE (fun w hA => shchk_c fr to' l a cap w hl hA hf ht)
  by_cases he : (chkS fr to' l).2 = 0
  · have HE := hidE he
    rw [(chk_ok he).1] at CH
    have h64 := (chk_ok he).2.2.2
    have q1 : decide ((l.length : Int) > 200) = false := decide_eq_false (by omega)
    have q2 : decide (200 < l.length) = false := decide_eq_false (by omega)
    have HL := hidE h64
    have CM := hidE (fun a2 c2 w hA => h8_chk fr to' (l ++ [x]) _ _ (chk_more he x) (l.length + 1) (by simp) a2 c2 w (by simp; omega) hA hf ht)
    have CL := hidE (fun a2 c2 w hA => h8_chk fr to' (l.take (l.length - 1)) _ _ (chk_less he) (l.length - 1) (by simp) a2 c2 w (by simp; omega) hA hf ht)
    have TR := hidE (chk_ok he).2.2.1
    have HF := hidE (And.intro hf ht)
    have HA0 := hidE hA
    clear he h64 hf ht hA
    go_enter Try.func5, Try.ntmps5
    go_wp2_with fail
    ((with_reducible refine (CH.out _ HS0.out.T).mono ?_); rintro e w1 ⟨rfl, hb1⟩)
    have HS := hidE (HS0.out.past hb1); have HS1 := hidE HS.out; clear HS0 hb1
    have p2 := HS.out.d.cell 2; have pz := HS.out.d.lt
    simp at p2
    go_upto_region 4 with fail
    have p0 := HS.out.d.cell 0; have p1 := HS.out.d.cell 1
    simp at p0 p1
    go_cut [9, 10] (fun s9 s10 wx => ∃ p q : Nat, s9 = .pointer (some ⟨p, 0, none⟩) ∧ s10 = .pointer (some ⟨q, 0, none⟩) ∧ p ≠ q ∧ w1.heap.size ≤ p ∧ w1.heap.size ≤ q ∧ Blk wx p #[.int .i64 fr, .int .i64 to', .slice a l.length cap] 24 ∧ Blk wx q #[.int .i64 fr, .int .i64 to', .slice a l.length cap] 24 ∧ Below w1.heap.size w1 wx)
    case first =>
      go_region
      all_goals
        go_wp2
        go_meet
        case rel => first
          | exact ⟨_, _, rfl, rfl, by omega, by omega, by omega, ((Blk.made _ _ _).alloc _).drew 1, (Blk.made_at _ _ _ _ (by simp)).drew 1, by (repeat (first | exact Below.refl _ _ | assumption | refine balloc ?_ _ | refine below_drewN ?_ _ | refine bstep (by assumption) ?_ | refine bstep (Past.prop _) ?_ | refine Below.setCell ?_ (by first | exact Nat.le_refl _ | (simp; done) | (simp; omega)) _))⟩
          | exact ⟨_, _, rfl, rfl, by omega, by omega, by omega, (Blk.made_at _ _ _ _ (by simp)).drew 1, ((Blk.made _ _ _).alloc _).drew 1, by (repeat (first | exact Below.refl _ _ | assumption | refine balloc ?_ _ | refine below_drewN ?_ _ | refine bstep (by assumption) ?_ | refine bstep (Past.prop _) ?_ | refine Below.setCell ?_ (by first | exact Nat.le_refl _ | (simp; done) | (simp; omega)) _))⟩
    case rest =>
      obtain ⟨p, q, rfl, rfl, hpq, hp, hq, hBp, hBq, hbc⟩ := hcut
      replace HS := hidE (HS.out.past hbc)
      have HBP := hidE hBp; have HBQ := hidE hBq
      have HW := hidE (show Below W.heap.size W w1 ∧ w1.heap.size ≤ wc.heap.size ∧ p < wc.heap.size ∧ q < wc.heap.size from ⟨by have h1 := HS1.out.bel; exact h1, hbc.size, hBp.lt, hBq.lt⟩)
      clear p0 p1 p2 pz hBp hBq hbc
      obtain ⟨b, off, rfl, hbb, hcc⟩ := HS.out.T (by have := HL.out; omega)
      have HSR := hidE (fun (w' : World) (hb' : Below wc.heap.size wc w') => srcP (hcc.below hb' hbb))
      clear hcc
      obtain ⟨i0, hi0, hz0, hz1, hz2⟩ := info_parts Try.infoPart
      have HI := hidE hi0; have HZ0 := hidE hz0; have HZ1 := hidE hz1; have HZ2 := hidE hz2
      clear hi0 hz0 hz1 hz2
      have p2 := HS.out.d.cell 2; have pz := HS.out.d.lt
      have x0 := HS.out.px.cell 0; have x1 := HS.out.px.cell 1; have x2 := HS.out.px.cell 2; have x3 := HS.out.px.cell 3; have x4 := HS.out.px.cell 4; have xz := HS.out.px.lt
      have g0 := HBP.out.cell 0; have g1 := HBP.out.cell 1; have g2 := HBP.out.cell 2; have gz := HBP.out.lt; have gf := HBP.out.free
      have l64 : l.length ≤ 64 := HL.out.2
      simp at p2 x0 x1 x2 x3 x4 g0 g1 g2
      go_upto_region 5 with fail
      have HPQ := hidE (And.intro hpq hp)
      go_cut [] (fun wx => ∃ (a2 : Option Addr) (c2 : Nat), Blk wx p #[.int .i64 fr, .int .i64 to', .slice a2 (l.length + 1) c2] 24 ∧ Blk wx q #[.int .i64 fr, .int .i64 to', .slice (some ⟨b, off, none⟩) l.length cap] 24 ∧ ArgP wx a2 (l ++ [x]) ∧ (∀ bb oo, a2 = some ⟨bb, oo, none⟩ → bb ≠ q) ∧ OS W fr to' (some ⟨b, off, none⟩) l cap x wx)
      case first =>
        go_region_law (first | (refine step_appP rfl (.tmp 44) (.tmp 46) 22 rfl wc 42 i0 _ Try.underlying22 HI.out HZ0.out HZ1.out HZ2.out rfl (.slice (some ⟨wc.heap.size, 0, none⟩) 0 0) 0 [] rfl (own_emptyP (p := wc.heap.size) ((Blk.made _ _ _).drew 1) (by omega)) ⟨b, off, none⟩ cap l.length l rfl rfl (HSR.out _ (by (repeat (first | exact Below.refl _ _ | assumption | refine balloc ?_ _ | refine below_drewN ?_ _ | refine bstep (by assumption) ?_ | refine bstep (Past.prop _) ?_ | refine Below.setCell ?_ (by first | exact Nat.le_refl _ | (simp; done) | (simp; omega)) _)))) (by omega) (by (repeat (first | exact Below.refl _ _ | assumption | refine balloc ?_ _ | refine below_drewN ?_ _ | refine bstep (by assumption) ?_ | refine bstep (Past.prop _) ?_ | refine Below.setCell ?_ (by first | exact Nat.le_refl _ | (simp; done) | (simp; omega)) _))) ?_; intro v1 w2 own1 hb1 keep1; have hsz1 := hb1.size; have y0 := (hb1.cell (p := ⟨W.heap.size + 1, 0, none⟩) xz).trans x0; have y1 := (hb1.cell (p := ⟨W.heap.size + 1, 1, none⟩) xz).trans x1; have y2 := (hb1.cell (p := ⟨W.heap.size + 1, 2, none⟩) xz).trans x2; have y3 := (hb1.cell (p := ⟨W.heap.size + 1, 3, none⟩) xz).trans x3; have y4 := (hb1.cell (p := ⟨W.heap.size + 1, 4, none⟩) xz).trans x4; have xz1 := Nat.lt_of_lt_of_le xz hsz1) | (refine step_appP rfl (.tmp 44) (.tmp 46) 22 rfl wc 42 i0 _ Try.underlying22 HI.out HZ0.out HZ1.out HZ2.out rfl (.slice (some ⟨wc.heap.size, 0, none⟩) 0 0) 0 [] rfl (own_emptyP (p := wc.heap.size) (((Blk.made _ _ _).alloc _).drew 1) (by omega)) ⟨b, off, none⟩ cap l.length l rfl rfl (HSR.out _ (by (repeat (first | exact Below.refl _ _ | assumption | refine balloc ?_ _ | refine below_drewN ?_ _ | refine bstep (by assumption) ?_ | refine bstep (Past.prop _) ?_ | refine Below.setCell ?_ (by first | exact Nat.le_refl _ | (simp; done) | (simp; omega)) _)))) (by omega) (by (repeat (first | exact Below.refl _ _ | assumption | refine balloc ?_ _ | refine below_drewN ?_ _ | refine bstep (by assumption) ?_ | refine bstep (Past.prop _) ?_ | refine Below.setCell ?_ (by first | exact Nat.le_refl _ | (simp; done) | (simp; omega)) _))) ?_; intro v1 w2 own1 hb1 keep1; have hsz1 := hb1.size; have y0 := (hb1.cell (p := ⟨W.heap.size + 1, 0, none⟩) xz).trans x0; have y1 := (hb1.cell (p := ⟨W.heap.size + 1, 1, none⟩) xz).trans x1; have y2 := (hb1.cell (p := ⟨W.heap.size + 1, 2, none⟩) xz).trans x2; have y3 := (hb1.cell (p := ⟨W.heap.size + 1, 3, none⟩) xz).trans x3; have y4 := (hb1.cell (p := ⟨W.heap.size + 1, 4, none⟩) xz).trans x4; have xz1 := Nat.lt_of_lt_of_le xz hsz1) | (refine step_appP rfl (.tmp 44) (.tmp 46) 22 rfl wc 42 i0 _ Try.underlying22 HI.out HZ0.out HZ1.out HZ2.out rfl (.slice (some ⟨wc.heap.size + 1, 0, none⟩) 0 0) 0 [] rfl (own_emptyP (p := wc.heap.size + 1) ((Blk.made_at _ _ _ _ (by simp)).drew 1) (by omega)) ⟨b, off, none⟩ cap l.length l rfl rfl (HSR.out _ (by (repeat (first | exact Below.refl _ _ | assumption | refine balloc ?_ _ | refine below_drewN ?_ _ | refine bstep (by assumption) ?_ | refine bstep (Past.prop _) ?_ | refine Below.setCell ?_ (by first | exact Nat.le_refl _ | (simp; done) | (simp; omega)) _)))) (by omega) (by (repeat (first | exact Below.refl _ _ | assumption | refine balloc ?_ _ | refine below_drewN ?_ _ | refine bstep (by assumption) ?_ | refine bstep (Past.prop _) ?_ | refine Below.setCell ?_ (by first | exact Nat.le_refl _ | (simp; done) | (simp; omega)) _))) ?_; intro v1 w2 own1 hb1 keep1; have hsz1 := hb1.size; have y0 := (hb1.cell (p := ⟨W.heap.size + 1, 0, none⟩) xz).trans x0; have y1 := (hb1.cell (p := ⟨W.heap.size + 1, 1, none⟩) xz).trans x1; have y2 := (hb1.cell (p := ⟨W.heap.size + 1, 2, none⟩) xz).trans x2; have y3 := (hb1.cell (p := ⟨W.heap.size + 1, 3, none⟩) xz).trans x3; have y4 := (hb1.cell (p := ⟨W.heap.size + 1, 4, none⟩) xz).trans x4; have xz1 := Nat.lt_of_lt_of_le xz hsz1) | (refine step_appP rfl (.tmp 47) (.tmp 49) 22 rfl wc 42 i0 _ Try.underlying22 HI.out HZ0.out HZ1.out HZ2.out rfl _ _ _ rfl (own1.alloc _) ⟨_, 0, none⟩ 1 1 [x] rfl rfl (argP_src (l := [x]) (Blk.made _ _ _)) (by omega) (by (repeat (first | exact Below.refl _ _ | assumption | refine balloc ?_ _ | refine below_drewN ?_ _ | refine bstep (by assumption) ?_ | refine bstep (Past.prop _) ?_ | refine Below.setCell ?_ (by first | exact Nat.le_refl _ | (simp; done) | (simp; omega)) _))) ?_; intro v2 w3 own2 hb2 keep2; obtain ⟨a2, c2, rfl⟩ := own_sli own2; have hr := HBP.out.past hb2; have k2 := hr.cell 2; have kf := hr.free; have kz := hr.lt; simp at k2; clear hr) | (refine step_appP rfl (.tmp 47) (.tmp 49) 22 rfl wc 42 i0 _ Try.underlying22 HI.out HZ0.out HZ1.out HZ2.out rfl _ _ _ rfl (own1) ⟨wc.heap.size, 0, none⟩ 1 1 [x] rfl rfl (argP_src (l := [x]) (keep1 wc.heap.size _ _ (((Blk.made _ _ _).alloc _).drew 1) (by simp [Value.ownBlock]))) (by omega) (by (repeat (first | exact Below.refl _ _ | assumption | refine balloc ?_ _ | refine below_drewN ?_ _ | refine bstep (by assumption) ?_ | refine bstep (Past.prop _) ?_ | refine Below.setCell ?_ (by first | exact Nat.le_refl _ | (simp; done) | (simp; omega)) _))) ?_; intro v2 w3 own2 hb2 keep2; obtain ⟨a2, c2, rfl⟩ := own_sli own2; have hr := HBP.out.past hb2; have k2 := hr.cell 2; have kf := hr.free; have kz := hr.lt; simp at k2; clear hr) | (refine step_appP rfl (.tmp 47) (.tmp 49) 22 rfl wc 42 i0 _ Try.underlying22 HI.out HZ0.out HZ1.out HZ2.out rfl _ _ _ rfl (own1) ⟨(wc.heap.size + 1), 0, none⟩ 1 1 [x] rfl rfl (argP_src (l := [x]) (keep1 (wc.heap.size + 1) _ _ ((Blk.made_at _ _ _ _ (by simp)).drew 1) (by simp [Value.ownBlock]))) (by omega) (by (repeat (first | exact Below.refl _ _ | assumption | refine balloc ?_ _ | refine below_drewN ?_ _ | refine bstep (by assumption) ?_ | refine bstep (Past.prop _) ?_ | refine Below.setCell ?_ (by first | exact Nat.le_refl _ | (simp; done) | (simp; omega)) _))) ?_; intro v2 w3 own2 hb2 keep2; obtain ⟨a2, c2, rfl⟩ := own_sli own2; have hr := HBP.out.past hb2; have k2 := hr.cell 2; have kf := hr.free; have kz := hr.lt; simp at k2; clear hr))
        all_goals
          go_wp2
          go_meet
          case rel =>
            have hW1 := HW.out.1.size
            have hpW := HPQ.out.2
            have hdl := HS1.out.px.lt
            have own3 := own2
            rw [List.nil_append, ← cellsOfP_app, show 0 + l.length + 1 = (l ++ [x]).length by simp] at own3
            have hO := own_kept (B := w3.setCell ⟨p, 2, none⟩ (.slice a2 (l.length + 1) c2)) own3 (fun kk e => keptS (by have := own_block own3 e; have := HW.out.2.2.1; omega) _)
            obtain ⟨a', c', e', _, _, hA'⟩ := sliP_own hO
            cases e'
            have hb3 := hb2
            have hbW : Below W.heap.size W (w3.setCell ⟨p, 2, none⟩ (.slice a2 (l.length + 1) c2)) := (HS.out.bel.trans (hb3.mono HS.out.bel.size)).setCell (p := ⟨p, 2, none⟩) (by show W.heap.size ≤ p; omega) _
            have hs := HS.out.past hb3
            exact ⟨a2, c2, by simpa using (HBP.out.past hb3).set 2 (.slice a2 (l.length + 1) c2), (HBQ.out.past hb3).other (fun c => HPQ.out.1 c.symm) _, hA', fun bb oo eb => (by have := own_block own3 (k := bb) (by rw [eb]; rfl); have := HW.out.2.2.2; omega), hbW, hs.d.other (by omega) _, hs.px.other (by omega) _, HA0.out.past hbW⟩
      case rest =>
        obtain ⟨a2, c2, hBp, hBq, hAM, hAQ, hOS⟩ := hcut
        have HLT := hidE hAQ; clear hAQ
        replace HS := hidE hOS
        have HQ := hidE (HW.out.2.2.2)
        have HPQ2 := hidE (show W.heap.size + 1 < p ∧ W.heap.size + 1 < q from by
          have := HS1.out.px.lt; have := HPQ.out.2; omega)
        have HBP := hidE hBp; have HBQ := hidE hBq; have HAM := hidE hAM
        clear hBp hBq hAM hOS p2 pz x0 x1 x2 x3 x4 xz g0 g1 g2 gz gf
        have p2 := HS.out.d.cell 2; have pz := HS.out.d.lt
        have g2 := HBQ.out.cell 2; have gz := HBQ.out.lt; have gf := HBQ.out.free
        have ws : IntKind.i64.wrap ((l.length : Int) - 1) = ((l.length - 1 : Nat) : Int) := (IntWalk.i64_in _ (by omega)).trans (by have := HL.out; omega)
        have ws2 : l.length - 1 ≤ cap := by omega
        simp at p2 g2
        go_upto_region 7 with fail
        have hbq : Below W.heap.size W (wc.setCell ⟨q, 2, none⟩ (.slice (some ⟨b, off, none⟩) (l.length - 1) cap)) := HS.out.bel.setCell (p := ⟨q, 2, none⟩) (by have := HPQ2.out.2; show W.heap.size ≤ q; omega) _
        have h1 := HBP.out.other (fun c => HPQ.out.1 c) (.slice (some ⟨b, off, none⟩) (l.length - 1) cap) (b := q) (i := 2)
        have h2 := HBQ.out.set 2 (.slice (some ⟨b, off, none⟩) (l.length - 1) cap)
        have h3 := argP_kept HAM.out HLT.out (q := q) (i := 2) (.slice (some ⟨b, off, none⟩) (l.length - 1) cap)
        have h4 : OS W fr to' (some ⟨b, off, none⟩) l cap x (wc.setCell ⟨q, 2, none⟩ (.slice (some ⟨b, off, none⟩) (l.length - 1) cap)) := ⟨hbq, HS.out.d.other (by have := HPQ2.out.2; omega) _, HS.out.px.other (by have := HPQ2.out.2; omega) _, HA0.out.past hbq⟩
        simp at h2
        clear hbq
        replace HBP := hidE h1; replace HBQ := hidE h2; replace HAM := hidE h3; replace HS := hidE h4
        clear h1 h2 h3 h4 p2 pz g2 gz gf
        generalize World.setCell _ _ _ = w5 at *
        have g0 := HBP.out.cell 0; have g1 := HBP.out.cell 1; have g2 := HBP.out.cell 2; have gz := HBP.out.lt
        simp at g0 g1 g2
        go_wp2_with fail
        ((with_reducible refine (CM.out _ _ _ HAM.out).mono ?_); rintro e w6 ⟨rfl, hb6⟩)
        replace HBQ := hidE (HBQ.out.past hb6); replace HS := hidE (HS.out.past hb6)
        clear hb6 g0 g1 g2 gz HAM HBP
        have g0 := HBQ.out.cell 0; have g1 := HBQ.out.cell 1; have g2 := HBQ.out.cell 2; have gz := HBQ.out.lt
        simp at g0 g1 g2
        go_wp2_with fail
        ((with_reducible refine (CL.out _ _ _ (argP_take (l.length - 1) HS.out.T)).mono ?_); rintro e w7 ⟨rfl, hb7⟩)
        replace HS := hidE (HS.out.past hb7)
        clear hb7 g0 g1 g2 gz HBQ
        have p0 := HS.out.d.cell 0; have p1 := HS.out.d.cell 1; have p2 := HS.out.d.cell 2; have pz := HS.out.d.lt
        simp at p0 p1 p2
        go_upto_region 14 with fail
        have hF : 0 ≤ (z : Int) % 549755813888 ∧ (z : Int) % 549755813888 < 549755813888 := ⟨by omega, by omega⟩
        generalize (z : Int) % 549755813888 = F at *
        have HR := hidE (show Blk (w7.alloc (.cells #[.int .i64 (F), .int .i64 (F + 4096), .slice (some ⟨b, off, none⟩) l.length cap] 24)) w7.heap.size #[.int .i64 (F), .int .i64 (F + 4096), .slice (some ⟨b, off, none⟩) l.length cap] 24 from Blk.made _ _ _)
        have HRW := hidE (show W.heap.size + 1 < w7.heap.size from by have := HS.out.px.lt; omega)
        replace HS := hidE (HS.out.past (show Below w7.heap.size w7 (w7.alloc (.cells #[.int .i64 (F), .int .i64 (F + 4096), .slice (some ⟨b, off, none⟩) l.length cap] 24)) from by (repeat (first | exact Below.refl _ _ | assumption | refine balloc ?_ _ | refine below_drewN ?_ _ | refine bstep (by assumption) ?_ | refine bstep (Past.prop _) ?_ | refine Below.setCell ?_ (by first | exact Nat.le_refl _ | (simp; done) | (simp; omega)) _))))
        clear p0 p1 p2 pz
        generalize World.alloc _ _ = w8 at *
        generalize w7.heap.size = r at *
        have g0 := HR.out.cell 0; have g1 := HR.out.cell 1; have g2 := HR.out.cell 2; have gz := HR.out.lt; have gf := HR.out.free
        simp at g0 g1 g2
        go_wp2_with fail
        ((with_reducible refine (h8_chk (F) (F + 4096) l (0) (0) ?hc l.length rfl _ _ _ ?hl HS.out.T ?hf ?ht).mono ?_))
        case hc => exact chk_win TR.out (by omega)
        case hl => have := HL.out; omega
        case hf => omega
        case ht => omega
        rintro e w9 ⟨rfl, hb9⟩
        replace HS := hidE (HS.out.past hb9); replace HR := hidE (HR.out.past hb9)
        clear hb9 g0 g1 g2 gz gf
        have g0 := HR.out.cell 0; have g1 := HR.out.cell 1; have g2 := HR.out.cell 2; have gz := HR.out.lt; have gf := HR.out.free
        simp at g0 g1 g2
        go_upto_region 16 with fail
        have hs := HR.out.set 1 (.int .i64 (F + 4096 + 1))
        simp at hs
        replace HS := hidE (HS.out.set HRW.out HA0.out 1 (.int .i64 (F + 4096 + 1))); replace HR := hidE hs
        clear hs g0 g1 g2 gz gf
        generalize World.setCell _ _ _ = w10 at *
        have g0 := HR.out.cell 0; have g1 := HR.out.cell 1; have g2 := HR.out.cell 2; have gz := HR.out.lt; have gf := HR.out.free
        simp at g0 g1 g2
        go_wp2_with fail
        ((with_reducible refine (h8_chk (F) (F + 4096 + 1) l (-1) (82) ?hc l.length rfl _ _ _ ?hl HS.out.T ?hf ?ht).mono ?_))
        case hc => exact chk_nowin (by omega)
        case hl => have := HL.out; omega
        case hf => omega
        case ht => omega
        rintro e w11 ⟨rfl, hb11⟩
        replace HS := hidE (HS.out.past hb11); replace HR := hidE (HR.out.past hb11)
        clear hb11 g0 g1 g2 gz gf
        have g0 := HR.out.cell 0; have g1 := HR.out.cell 1; have g2 := HR.out.cell 2; have gz := HR.out.lt; have gf := HR.out.free
        simp at g0 g1 g2
        go_upto_region 18 with fail
        have hs := HR.out.set 1 (.int .i64 (F))
        simp at hs
        replace HS := hidE (HS.out.set HRW.out HA0.out 1 (.int .i64 (F))); replace HR := hidE hs
        clear hs g0 g1 g2 gz gf
        generalize World.setCell _ _ _ = w12 at *
        have g0 := HR.out.cell 0; have g1 := HR.out.cell 1; have g2 := HR.out.cell 2; have gz := HR.out.lt; have gf := HR.out.free
        simp at g0 g1 g2
        go_wp2_with fail
        ((with_reducible refine (h8_chk (F) (F) l (-1) (82) ?hc l.length rfl _ _ _ ?hl HS.out.T ?hf ?ht).mono ?_))
        case hc => exact chk_nowin (by omega)
        case hl => have := HL.out; omega
        case hf => omega
        case ht => omega
        rintro e w13 ⟨rfl, hb13⟩
        replace HS := hidE (HS.out.past hb13); replace HR := hidE (HR.out.past hb13)
        clear hb13 g0 g1 g2 gz gf
        have g0 := HR.out.cell 0; have g1 := HR.out.cell 1; have g2 := HR.out.cell 2; have gz := HR.out.lt; have gf := HR.out.free
        simp at g0 g1 g2
        go_upto_region 20 with fail
        have hs := HR.out.set 0 (.int .i64 (-1))
        simp at hs
        replace HS := hidE (HS.out.set HRW.out HA0.out 0 (.int .i64 (-1))); replace HR := hidE hs
        clear hs g0 g1 g2 gz gf
        generalize World.setCell _ _ _ = w14 at *
        have g0 := HR.out.cell 0; have g1 := HR.out.cell 1; have g2 := HR.out.cell 2; have gz := HR.out.lt; have gf := HR.out.free
        simp at g0 g1 g2
        go_wp2_with fail
        ((with_reducible refine (h8_chk (-1) (F) l (-1) (82) ?hc l.length rfl _ _ _ ?hl HS.out.T ?hf ?ht).mono ?_))
        case hc => exact chk_nowin (by omega)
        case hl => have := HL.out; omega
        case hf => omega
        case ht => omega
        rintro e w15 ⟨rfl, hb15⟩
        replace HS := hidE (HS.out.past hb15); replace HR := hidE (HR.out.past hb15)
        clear hb15 g0 g1 g2 gz gf
        have g0 := HR.out.cell 0; have g1 := HR.out.cell 1; have g2 := HR.out.cell 2; have gz := HR.out.lt; have gf := HR.out.free
        simp at g0 g1 g2
        go_upto_region 22 with fail
        have hs := HR.out.set 0 (.int .i64 (1099511627775))
        simp at hs
        replace HS := hidE (HS.out.set HRW.out HA0.out 0 (.int .i64 (1099511627775))); replace HR := hidE hs
        clear hs g0 g1 g2 gz gf
        generalize World.setCell _ _ _ = w16 at *
        have g0 := HR.out.cell 0; have g1 := HR.out.cell 1; have g2 := HR.out.cell 2; have gz := HR.out.lt; have gf := HR.out.free
        simp at g0 g1 g2
        go_upto_region 23 with fail
        have hs := HR.out.set 1 (.int .i64 (1099511627776))
        simp at hs
        replace HS := hidE (HS.out.set HRW.out HA0.out 1 (.int .i64 (1099511627776))); replace HR := hidE hs
        clear hs g0 g1 g2 gz gf
        generalize World.setCell _ _ _ = w17 at *
        have g0 := HR.out.cell 0; have g1 := HR.out.cell 1; have g2 := HR.out.cell 2; have gz := HR.out.lt; have gf := HR.out.free
        simp at g0 g1 g2
        go_wp2_with fail
        ((with_reducible refine (h8_chk (1099511627775) (1099511627776) l (0) (0) ?hc l.length rfl _ _ _ ?hl HS.out.T ?hf ?ht).mono ?_))
        case hc => exact chk_win TR.out (by omega)
        case hl => have := HL.out; omega
        case hf => omega
        case ht => omega
        rintro e w18 ⟨rfl, hb18⟩
        replace HS := hidE (HS.out.past hb18); replace HR := hidE (HR.out.past hb18)
        clear hb18 g0 g1 g2 gz gf
        have g0 := HR.out.cell 0; have g1 := HR.out.cell 1; have g2 := HR.out.cell 2; have gz := HR.out.lt; have gf := HR.out.free
        simp at g0 g1 g2
        go_upto_region 25 with fail
        have hs := HR.out.set 1 (.int .i64 (1099511627777))
        simp at hs
        replace HS := hidE (HS.out.set HRW.out HA0.out 1 (.int .i64 (1099511627777))); replace HR := hidE hs
        clear hs g0 g1 g2 gz gf
        generalize World.setCell _ _ _ = w19 at *
        have g0 := HR.out.cell 0; have g1 := HR.out.cell 1; have g2 := HR.out.cell 2; have gz := HR.out.lt; have gf := HR.out.free
        simp at g0 g1 g2
        go_wp2_with fail
        ((with_reducible refine (h8_chk (1099511627775) (1099511627777) l (-1) (82) ?hc l.length rfl _ _ _ ?hl HS.out.T ?hf ?ht).mono ?_))
        case hc => exact chk_nowin (by omega)
        case hl => have := HL.out; omega
        case hf => omega
        case ht => omega
        rintro e w20 ⟨rfl, hb20⟩
        replace HS := hidE (HS.out.past hb20); replace HR := hidE (HR.out.past hb20)
        clear hb20 g0 g1 g2 gz gf
        go_wp2_with fail
        ((with_reducible refine (head8_c _).mono ?_); rintro e w21 ⟨rfl, hb21⟩)
        replace HS := hidE (HS.out.past hb21); clear hb21
        go_wp2
        go_ret
        exact ⟨rfl, HS.out.bel⟩
  · have m1 : ((chkS fr to' l).2 != 0) = true := bne_iff_ne.2 he
    clear he hf ht hA
    generalize chkS fr to' l = C at *
    obtain ⟨cx, cy⟩ := C
    simp only at m1
    go_enter Try.func5, Try.ntmps5
    go_wp2_with fail
    ((with_reducible refine (CH.out _ HS0.out.T).mono ?_); rintro e w1 ⟨rfl, hb1⟩)
    have HS := hidE (HS0.out.past hb1); clear HS0 hb1
    go_wp2_with fail
    ((with_reducible refine (head8_c _).mono ?_); rintro e w2 ⟨rfl, hb2⟩)
    replace HS := hidE (HS.out.past hb2); clear hb2
    go_wp2
    go_ret
    exact ⟨rfl, HS.out.bel⟩
end Go.Proofs.Ytnifmdeojgfgcaa

namespace Go.Proofs.Ytnifmdeojgfgcaa
open Go.ChangeShapes Go.WideShapes Go.ChangeAt Go.RowKit
theorem shone_int (fr to' : Int) (l : List Prt) (a : Option Addr) (cap : Nat) (x : Prt) (z : Int) (W : World) (hlc : l.length ≤ cap) (hcap : cap ≤ 9223372036854775807) (hA : ArgP W a l) (hf : -9223372036854775808 ≤ fr ∧ fr ≤ 9223372036854775807) (ht : -9223372036854775808 ≤ to' ∧ to' ≤ 9223372036854775807) (hz : 0 ≤ z ∧ z ≤ 18446744073709551615) :
    Calls Try.prog 5 #[defV fr to' a l.length cap, prtV x, .int .u64 z] W fun e w' => e = .returned (.bool true) ∧ Below W.heap.size W w' := by
  obtain ⟨z', rfl⟩ : ∃ k : Nat, z = (k : Int) := ⟨z.toNat, by omega⟩
  exact shone_walk fr to' l a cap x z' W (by omega) hlc hcap hA hf ht (by omega)
set_option maxRecDepth 100000 in
theorem shapeOne_lifted (os : Os) (started : os.Started) (H : Type) (enc : TypeId × Value → H) :
    ReturnsInHanded {} Try.checked os 5 .any (Rows.shapeOneSpec.pre6 enc Try.prog Try.f5 Rows.shapeOneRow.domain false) (Rows.shapeOneSpec.post enc Try.prog Try.f5 false true false false) := by
  refine returnsInHanded_of_change (C := Try.checked) own started (by kernel_rfl) Try.func5
    (ChangeSpec.witness6 (enc := enc) (C := Try.checked) false ⟨#[], #[.agg #[.int .i64 0, .int .i64 0, .slice none 0 0], .agg #[.int .u8 0, .int .u32 0, .int .u32 0, .int .i64 0, .int .i64 0], .int .u64 0], []⟩ 8 (by kernel_rfl) (by kernel_rfl) (by kernel_rfl) (by kernel_rfl)) ?_
  intro W base args ds gs before hval0 hW _ _
  have hval : ∀ (j : Nat) t v, Try.f5.params[j]? = some t → args[j]? = some v → Value.okWide Try.prog W .any base t v := hval0
  have hW' := hW
  obtain ⟨p, q, hA0, hV, rfl, hfz, hnd⟩ := hW
  have hA : DataW.TrodAll enc Try.prog W 0 (fun _ => true) true Try.f5.params.toList args.toList ds p := hA0
  rw [Try.params5] at hA hval
  obtain ⟨v0, vs0, d0, ds0, p0, q0, hargs, rfl, rfl, h0, r0⟩ := trodAll_cons hA
  obtain ⟨v1, vs1, d1, ds1, p1, q1, rfl, rfl, rfl, h1, r1⟩ := trodAll_cons r0
  obtain ⟨v2, vs2, d2, ds2, p2, q2, rfl, rfl, rfl, h2, r2⟩ := trodAll_cons r1
  obtain ⟨rfl, rfl, rfl⟩ := trodAll_nil r2
  obtain rfl : args = #[v0, v1, v2] := by cases args; simp_all
  obtain ⟨f0, t0, l0, o0, c0, rfl, hf0, ht0, hl0, hc0, hA0', hP0⟩ := open_defP (hval 0 24 v0 rfl rfl) h0
  obtain ⟨x1, rfl, hx1⟩ := open_prtP (hval 1 42 v1 rfl rfl) h1
  obtain ⟨a2, rfl, rfl, rfl, wa2⟩ := open_int Try.underlying44 (hval 2 44 v2 rfl rfl) h2
  have ha2 : 0 ≤ a2 ∧ a2 ≤ 18446744073709551615 := by simpa [Lit.wf, IntKind.min, IntKind.max, IntKind.signed, IntKind.bits] using wa2
  clear hA0 hval0
  refine (shone_int f0 t0 l0 o0 c0 x1 a2 W hl0 hc0 hA0' hf0 ht0 ha2).mono fun e W' ⟨he, hb⟩ => ?_
  subst he
  exact ⟨_, rfl, law_post laidOut (readOk_spec (by kernel_rfl)) rfl Try.underlying4 rfl ⟨rfl, rfl, rfl⟩ hW' hb⟩

theorem shapeOne_holds : Rows.ShapeOneSaid :=
  OpenClaim.holds_of_wide 5 Try.f5 rfl rfl rfl rfl rfl rfl rfl ⟨rfl, rfl, rfl, rfl, rfl⟩ rfl rfl rfl rfl rfl (by kernel_rfl) Try.func5 (by kernel_rfl)
    (of_decide_eq_true (by kernel_rfl)) (by unfold Func.isWrapper; first | (rw [if_pos (by decide +kernel)]; kernel_rfl) | (rw [if_neg (by decide +kernel)]; exact ⟨rfl, rfl⟩))
    (fun os started H enc _ => shapeOne_lifted os started H enc)
end Go.Proofs.Ytnifmdeojgfgcaa
