/- Slices that read as lists of numbers. No function of the program. No conditions. The contracts of the document's own lists of times, and of its canonical function. No conditions but the lists' sizes. The contract of the document's own list of times. No conditions but the list's size. The document's own answer of layer 10: Use. Conditions: the slices read as parts, as pieces; sizes. The walk of the statement on what satisfies a definition. No conditions but sizes, and that the slices read as parts, as pieces. -/
import Derived.Test.YtlhokgcamcaonaaPXGA
import Derived.Test.YtlhokgcamcaonaaPXGJ
import Derived.Test.YtlhokgcamcaonaaPXMA
import Derived.Laws.AppendOwnNone
import Derived.Deep.RegionLaw
import Derived.Deep.DeepCutAuto
import Derived.Test.YtlhokgcamcaonaaPXGI
import Derived.Test.YtlhokgcamcaonaaPXGG
import Derived.Test.YtlhokgcamcaonaaPXGE
namespace Go.Proofs.Ytlhokgcamcaonaa
open Go.ChangeShapes Go.WideShapes Go.ChangeAt Go.RowKit
attribute [local irreducible] Go.Calls

theorem Try.infoI64 : (Try.prog.info? 2).map (fun i => (i.zero, i.size, i.bytes)) = some (some (.int .i64 0), 1, 8) := by kernel_rfl

/-- The cells of a list of numbers. -/
def cellsI (l : List Int) : List Value := l.map (.int .i64)
theorem cellsI_get {l : List Int} {i : Nat} (h : i < l.length) : (cellsI l)[i]? = some (.int .i64 (l.getD i 0)) := by
  unfold cellsI
  rw [List.getElem?_map, List.getElem?_eq_getElem h, getD_get _ _ _ h]; rfl
theorem cellsI_one (l : List Int) : ∀ u ∈ cellsI l, u.oneCell' = true := fun u hu => by
  unfold cellsI at hu
  rw [List.mem_map] at hu
  obtain ⟨x, _, rfl⟩ := hu
  rfl
/-- The numbers that a slice's cells hold. -/
def CellsI (w : World) (b off : Nat) (l : List Int) : Prop := ∀ i, i < l.length → w.cell? ⟨b, off + i, none⟩ = some (.int .i64 (l.getD i 0))
def ArgI (w : World) (a : Option Addr) (l : List Int) : Prop := 0 < l.length → ∃ b off, a = some ⟨b, off, none⟩ ∧ b < w.heap.size ∧ CellsI w b off l
theorem CellsI.below {w w' : World} {b off B : Nat} {l : List Int} (h : CellsI w b off l) (hb : Below B w w') (hB : b < B) : CellsI w' b off l := fun i hi => (hb.cell (p := ⟨b, _, none⟩) hB).trans (h i hi)
theorem ArgI.past {w w' : World} {a : Option Addr} {l : List Int} (h : ArgI w a l) (hb : Below w.heap.size w w') : ArgI w' a l := fun hl => by
  obtain ⟨b, off, e, h1, h2⟩ := h hl
  exact ⟨b, off, e, Nat.lt_of_lt_of_le h1 hb.size, h2.below hb h1⟩
def SliI (w : World) (v : Value) (l : List Int) : Prop := ∃ (a : Option Addr) (cap : Nat), v = .slice a l.length cap ∧ l.length ≤ cap ∧ cap ≤ 9223372036854775807 ∧ ArgI w a l
theorem sliI_own {w : World} {base : Nat} {e : TypeId} {v : Value} {l : List Int} (h : w.ownsRow base e 1 v l.length (cellsI l)) : SliI w v l := by
  obtain ⟨h1, h2 | ⟨g, cap, cur, rfl, h3, h4, h5, h6, h7, h8⟩⟩ := h
  · obtain ⟨rfl, h2⟩ := h2
    have : l = [] := List.eq_nil_of_length_eq_zero h2
    subst this
    exact ⟨none, 0, rfl, Nat.le_refl _, by omega, fun h => by simp at h⟩
  · refine ⟨some ⟨g, 0, none⟩, cap, rfl, h5, by unfold maxLen at h6; omega, fun _ => ⟨g, 0, rfl, lt_of_block h4, fun i hi => ?_⟩⟩
    have hg := cellsI_get hi
    have e : w.cell? ⟨g, 0 + i, none⟩ = cur[i]? := by simp [World.cell?, h4]
    rw [e, ← Array.getElem?_toList]
    rw [← h8, List.getElem?_take, if_pos (by omega)] at hg
    exact hg
end Go.Proofs.Ytlhokgcamcaonaa

namespace Go.Proofs.Ytlhokgcamcaonaa
open Go.ChangeShapes Go.WideShapes Go.ChangeAt Go.RowKit
attribute [local irreducible] Go.Calls

theorem new_cells_at (w : World) (cs : Array Value) (t : TypeId) (k : Nat) (h : k = w.heap.size) : ∀ j u, cs.toList[j]? = some u → (w.alloc (.cells cs t)).cell? ((⟨k, 0, none⟩ : Addr).add j) = some u := by
  subst h; exact new_cells w cs t
def WithPost (w : World) (B : Nat) (v0 : Value) (f : List Sg) (e : Ending) (w' : World) : Prop :=
  ∃ v' : Value, e = .returned v' ∧ w'.ownsRow B 52 3 v' f.length (cellsOfS f) ∧ w.grownBy w' v0.ownBlock
theorem own_past {w w' : World} {B : Nat} {e : TypeId} {sz : Nat} {v : Value} {n : Nat} {xs : List Value} (h : w.ownsRow B e sz v n xs) (hb : Below w.heap.size w w') : w'.ownsRow B e sz v n xs := own_below h hb

set_option maxHeartbeats 1000000 in
set_option maxRecDepth 100000 in
theorem rwith_c (f : List Sg) (v0 : Value) (B : Nat) (t m c : Int) (w : World) (hB : B ≤ w.heap.size) (hl : f.length ≤ 1099511627776) (ho : w.ownsRow B 52 3 v0 f.length (cellsOfS f)) :
    Calls Try.prog 33 #[v0, .int .i64 t, V m c] w (WithPost w B v0 (withL f t (m, c))) := by
  obtain ⟨a, cap, rfl, hlc, hcap, hA⟩ := sliS_own ho
  have HO := hidE ho; have HA := hidE hA
  clear ho hA
  obtain ⟨i0, hi, hz0, hz1, hz2⟩ := info_parts Try.infoSeg
  have HI := hidE hi; have HZ0 := hidE hz0; have HZ1 := hidE hz1; have HZ2 := hidE hz2
  clear hi hz0 hz1 hz2
  have app : ∀ (wx : World), Below w.heap.size w wx → Hid (wx.ownsRow B 52 3 (.slice a f.length cap) f.length (cellsOfS f) ∧ B ≤ wx.heap.size) := fun wx hb => ⟨own_past HO.out hb, Nat.le_trans hB hb.size⟩
  have APP := hidE app; clear app
  have HCS := hidE (show cellsOfS (f ++ [(t, (m, c))]) = cellsOfS f ++ [.int .i64 t, .int .i64 m, .int .i64 c] from cellsOfS_app _ _)
  have hlen1 : (f ++ [(t, (m, c))]).length = f.length + 1 := by simp
  have HL1 := hidE hlen1; clear hlen1
  by_cases h0 : f.length = 0
  · have hlast : lastV f = (0, 0) := by unfold lastV; rw [if_pos h0]
    have hd : decide ((0 : Int) < (f.length : Int)) = false := decide_eq_false (by omega)
    have hd' : ¬ (0 : Int) < (f.length : Int) := by omega
    have hd2 : ¬ 0 < f.length := by omega
    by_cases hv : (m, c) = ((0, 0) : Int × Int)
    · have HF := hidE (show withL f t (m, c) = f by unfold withL; rw [hlast, if_pos hv])
      obtain ⟨rfl, rfl⟩ : m = 0 ∧ c = 0 := by simpa using hv
      clear hv hlast h0
      go_enter Try.func33, Try.ntmps33
      go_wp2
      go_ret
      exact ⟨_, rfl, by rw [HF.out]; exact own_past HO.out (by (repeat (first | exact Below.refl _ _ | assumption | refine balloc ?_ _ | refine below_drewN ?_ _ | refine bstep (by assumption) ?_ | refine bstep (Past.prop _) ?_ | refine Below.setCell ?_ (by first | exact Nat.le_refl _ | (simp; done) | (simp; omega)) _))), grown_any (by (repeat (first | exact Below.refl _ _ | assumption | refine balloc ?_ _ | refine below_drewN ?_ _ | refine bstep (by assumption) ?_ | refine bstep (Past.prop _) ?_ | refine Below.setCell ?_ (by first | exact Nat.le_refl _ | (simp; done) | (simp; omega)) _)))⟩
    · have HF := hidE (show withL f t (m, c) = f ++ [(t, (m, c))] by unfold withL; rw [hlast, if_neg hv])
      have hmc : ((m == 0) && (c == 0)) = false := by
        rw [Bool.eq_false_iff]; intro h; simp at h; exact hv (by rw [h.1, h.2])
      clear hv hlast h0
      cases hm : (m == 0)
      rotate_left
      · have hc : (c == 0) = false := by rw [hm] at hmc; simpa using hmc
        clear hmc
        go_enter Try.func33, Try.ntmps33
        go_wp2_with (at_builtin; go_loud (refine wpList_append_own _ rfl (.tmp 23) (.tmp 27) 36 rfl B 52 i0 (.agg #[.int .i64 0, .int .i64 0, .int .i64 0]) 3 24 Try.underlying36 HI.out HZ0.out HZ1.out HZ2.out rfl (by decide) _ _ _ rfl (APP.out _ (by (repeat (first | exact Below.refl _ _ | assumption | refine balloc ?_ _ | refine below_drewN ?_ _ | refine bstep (by assumption) ?_ | refine bstep (Past.prop _) ?_ | refine Below.setCell ?_ (by first | exact Nat.le_refl _ | (simp; done) | (simp; omega)) _)))).out.1 ⟨_, 0, none⟩ 1 1 [.int .i64 t, .int .i64 m, .int .i64 c] rfl rfl (new_cells_at _ #[.int .i64 t, .int .i64 m, .int .i64 c] 52 _ (by simp)) (by intro x hx; simp at hx; rcases hx with rfl | rfl | rfl <;> rfl) (by unfold maxLen; omega) (by omega) (by simp; omega) ?_; intro v' w4 hown4 hgrow4 _))
        rw [← HCS.out, ← HL1.out] at hown4
        have HO4 := hidE hown4; have HG4 := hidE (grown_trans (grown_any (show Below w.heap.size w _ by (repeat (first | exact Below.refl _ _ | assumption | refine balloc ?_ _ | refine below_drewN ?_ _ | refine bstep (by assumption) ?_ | refine bstep (Past.prop _) ?_ | refine Below.setCell ?_ (by first | exact Nat.le_refl _ | (simp; done) | (simp; omega)) _)))) hgrow4)
        clear hown4 hgrow4
        go_wp2
        go_ret
        exact ⟨_, rfl, by rw [HF.out]; exact HO4.out, HG4.out⟩
      · clear hmc
        go_enter Try.func33, Try.ntmps33
        go_wp2_with (at_builtin; refine wpList_append_own _ rfl (.tmp 23) (.tmp 27) 36 rfl B 52 i0 (.agg #[.int .i64 0, .int .i64 0, .int .i64 0]) 3 24 Try.underlying36 HI.out HZ0.out HZ1.out HZ2.out rfl (by decide) _ _ _ rfl (APP.out _ (by (repeat (first | exact Below.refl _ _ | assumption | refine balloc ?_ _ | refine below_drewN ?_ _ | refine bstep (by assumption) ?_ | refine bstep (Past.prop _) ?_ | refine Below.setCell ?_ (by first | exact Nat.le_refl _ | (simp; done) | (simp; omega)) _)))).out.1 ⟨_, 0, none⟩ 1 1 [.int .i64 t, .int .i64 m, .int .i64 c] rfl rfl (new_cells_at _ #[.int .i64 t, .int .i64 m, .int .i64 c] 52 _ (by simp)) (by intro x hx; simp at hx; rcases hx with rfl | rfl | rfl <;> rfl) (by unfold maxLen; omega) (by omega) (by simp; omega) ?_; intro v' w4 hown4 hgrow4 _)
        rw [← HCS.out, ← HL1.out] at hown4
        have HO4 := hidE hown4; have HG4 := hidE (grown_trans (grown_any (show Below w.heap.size w _ by (repeat (first | exact Below.refl _ _ | assumption | refine balloc ?_ _ | refine below_drewN ?_ _ | refine bstep (by assumption) ?_ | refine bstep (Past.prop _) ?_ | refine Below.setCell ?_ (by first | exact Nat.le_refl _ | (simp; done) | (simp; omega)) _)))) hgrow4)
        clear hown4 hgrow4
        go_wp2
        go_ret
        exact ⟨_, rfl, by rw [HF.out]; exact HO4.out, HG4.out⟩
  · obtain ⟨k, hk⟩ : ∃ k, f.length = k + 1 := ⟨f.length - 1, by omega⟩
    have hlast : lastV f = vls f k := by unfold lastV; rw [if_neg h0, hk, Nat.add_sub_cancel]
    obtain ⟨b, off, rfl, hb, hc⟩ := HA.out (by omega)
    obtain ⟨d0, d1, d2⟩ := hc.get (i := k) (by omega)
    have hd : decide ((0 : Int) < (f.length : Int)) = true := decide_eq_true (by omega)
    have hkz : (f.length : Int) - 1 = (k : Int) := by omega
    have hkl : k < f.length := by omega
    have HKZ := hidE hkz
    have hn1 : b ≠ w.heap.size := by omega
    have hn2 : b ≠ w.heap.size + 1 := by omega
    clear hc hk h0 hkz d0
    by_cases hv : (m, c) = vls f k
    · have HF := hidE (show withL f t (m, c) = f by unfold withL; rw [hlast, if_pos hv])
      rw [← hv] at d1 d2
      clear hv hlast
      go_enter Try.func33, Try.ntmps33
      go_upto_region 3 with fail
      have hkz := HKZ.out
      go_wp2
      go_ret
      exact ⟨_, rfl, by rw [HF.out]; exact own_past HO.out (by (repeat (first | exact Below.refl _ _ | assumption | refine balloc ?_ _ | refine below_drewN ?_ _ | refine bstep (by assumption) ?_ | refine bstep (Past.prop _) ?_ | refine Below.setCell ?_ (by first | exact Nat.le_refl _ | (simp; done) | (simp; omega)) _))), grown_any (by (repeat (first | exact Below.refl _ _ | assumption | refine balloc ?_ _ | refine below_drewN ?_ _ | refine bstep (by assumption) ?_ | refine bstep (Past.prop _) ?_ | refine Below.setCell ?_ (by first | exact Nat.le_refl _ | (simp; done) | (simp; omega)) _)))⟩
    · have HF := hidE (show withL f t (m, c) = f ++ [(t, (m, c))] by unfold withL; rw [hlast, if_neg hv])
      have hmc : ((m == (vls f k).1) && (c == (vls f k).2)) = false := by
        rw [Bool.eq_false_iff]; intro h; simp at h; exact hv (Prod.ext h.1 h.2)
      clear hv hlast
      generalize vls f k = q at *
      cases hm : (m == q.1)
      rotate_left
      · have hc : (c == q.2) = false := by rw [hm] at hmc; simpa using hmc
        clear hmc
        go_enter Try.func33, Try.ntmps33
        go_upto_region 3 with fail
        have hkz := HKZ.out
        go_wp2_with (at_builtin; refine wpList_append_own _ rfl (.tmp 23) (.tmp 27) 36 rfl B 52 i0 (.agg #[.int .i64 0, .int .i64 0, .int .i64 0]) 3 24 Try.underlying36 HI.out HZ0.out HZ1.out HZ2.out rfl (by decide) _ _ _ rfl (APP.out _ (by (repeat (first | exact Below.refl _ _ | assumption | refine balloc ?_ _ | refine below_drewN ?_ _ | refine bstep (by assumption) ?_ | refine bstep (Past.prop _) ?_ | refine Below.setCell ?_ (by first | exact Nat.le_refl _ | (simp; done) | (simp; omega)) _)))).out.1 ⟨_, 0, none⟩ 1 1 [.int .i64 t, .int .i64 m, .int .i64 c] rfl rfl (new_cells_at _ #[.int .i64 t, .int .i64 m, .int .i64 c] 52 _ (by simp)) (by intro x hx; simp at hx; rcases hx with rfl | rfl | rfl <;> rfl) (by unfold maxLen; omega) (by omega) (by simp; omega) ?_; intro v' w4 hown4 hgrow4 _)
        rw [← HCS.out, ← HL1.out] at hown4
        have HO4 := hidE hown4; have HG4 := hidE (grown_trans (grown_any (show Below w.heap.size w _ by (repeat (first | exact Below.refl _ _ | assumption | refine balloc ?_ _ | refine below_drewN ?_ _ | refine bstep (by assumption) ?_ | refine bstep (Past.prop _) ?_ | refine Below.setCell ?_ (by first | exact Nat.le_refl _ | (simp; done) | (simp; omega)) _)))) hgrow4)
        clear hown4 hgrow4
        go_wp2
        go_ret
        exact ⟨_, rfl, by rw [HF.out]; exact HO4.out, HG4.out⟩
      · clear hmc
        go_enter Try.func33, Try.ntmps33
        go_upto_region 3 with fail
        have hkz := HKZ.out
        go_wp2_with (at_builtin; refine wpList_append_own _ rfl (.tmp 23) (.tmp 27) 36 rfl B 52 i0 (.agg #[.int .i64 0, .int .i64 0, .int .i64 0]) 3 24 Try.underlying36 HI.out HZ0.out HZ1.out HZ2.out rfl (by decide) _ _ _ rfl (APP.out _ (by (repeat (first | exact Below.refl _ _ | assumption | refine balloc ?_ _ | refine below_drewN ?_ _ | refine bstep (by assumption) ?_ | refine bstep (Past.prop _) ?_ | refine Below.setCell ?_ (by first | exact Nat.le_refl _ | (simp; done) | (simp; omega)) _)))).out.1 ⟨_, 0, none⟩ 1 1 [.int .i64 t, .int .i64 m, .int .i64 c] rfl rfl (new_cells_at _ #[.int .i64 t, .int .i64 m, .int .i64 c] 52 _ (by simp)) (by intro x hx; simp at hx; rcases hx with rfl | rfl | rfl <;> rfl) (by unfold maxLen; omega) (by omega) (by simp; omega) ?_; intro v' w4 hown4 hgrow4 _)
        rw [← HCS.out, ← HL1.out] at hown4
        have HO4 := hidE hown4; have HG4 := hidE (grown_trans (grown_any (show Below w.heap.size w _ by (repeat (first | exact Below.refl _ _ | assumption | refine balloc ?_ _ | refine below_drewN ?_ _ | refine bstep (by assumption) ?_ | refine bstep (Past.prop _) ?_ | refine Below.setCell ?_ (by first | exact Nat.le_refl _ | (simp; done) | (simp; omega)) _)))) hgrow4)
        clear hown4 hgrow4
        go_wp2
        go_ret
        exact ⟨_, rfl, by rw [HF.out]; exact HO4.out, HG4.out⟩
end Go.Proofs.Ytlhokgcamcaonaa

namespace Go.Proofs.Ytlhokgcamcaonaa
open Go.ChangeShapes Go.WideShapes Go.ChangeAt Go.RowKit
attribute [local irreducible] Go.Calls

/-- A slice whose cells are the list's, nil too. -/
def SrcI (w : World) (v : Value) (l : List Int) : Prop := ∃ (a : Option Addr) (cap : Nat), v = .slice a l.length cap ∧ (a = none → l = [] ∧ cap = 0) ∧ ∀ ad, a = some ad → ∀ j u, (cellsI l)[j]? = some u → w.cell? (ad.add j) = some u
theorem step_append_src {P : Program} {ops : Array Oper} {o : Oper} {a : Act} {w : World} {K : Act → World → Prop} {Q : Exit → Act → World → Prop} {E : Prop}
    (hg : o.guard = none) (s x : Operand) (t : TypeId) (hop : o.op = Op.call { callee := Callee.builtin Builtin.append, args := #[s, x], argTypes := #[t, t] })
    (base : Nat) (e : TypeId) (i : TypeInfo) (ht : P.underlying t = some (.slice e)) (hi : P.info? e = some i) (hz : i.zero = some (.int .i64 0)) (hsize : i.size = 1) (hby : i.bytes = 8)
    (v : Value) (n : Nat) (xs : List Value) (hs : a.eval s = v) (hown : w.ownsRow base e 1 v n xs)
    (vx : Value) (news : List Int) (hx : a.eval x = vx) (hsrc : SrcI w vx news)
    (h63 : n + news.length ≤ 1099511627776) (hbase : base ≤ w.heap.size)
    (h : ∀ v' w', w'.ownsRow base e 1 v' (n + news.length) (xs ++ cellsI news) → w.grownBy w' v.ownBlock → K (a.put o.dst v') w') :
    if Region.wanted o (yielded ops a.tmps) = true then Oper.wp P o a w K Q else E := by
  have hw : Region.wanted o (yielded ops a.tmps) = true := by simp [Region.wanted, hg]
  rw [if_pos hw]
  obtain ⟨ad, cap, rfl, hn, hc⟩ := hsrc
  cases ad with
  | none =>
    obtain ⟨rfl, rfl⟩ := hn rfl
    have hrun := run_append_owned_none (P := P) (w := w) base t o.type e i 1 ht hi v n xs hown
    have hK := h v w (by simpa [cellsI] using hown) ⟨rfl, rfl, rfl, Nat.le_refl _, fun _ _ _ => rfl⟩
    unfold Oper.wp
    simp [execOp, hop, resolve, invoke, builtin, hs, hx, hrun, Result.andThen]
    exact hK
  | some ad =>
    exact wp_append_own w s x t hop base e i (.int .i64 0) 1 8 ht hi hz hsize hby rfl (by decide) v n xs hs hown ad news.length cap (cellsI news) hx (by simp [cellsI]) (hc ad rfl) (cellsI_one news) (by unfold maxLen; omega) (by omega) hbase fun v' w' h1 h2 _ => h v' w' h1 h2

/-- The same, told for rows that lie from a world's end on. -/
theorem step_app {P : Program} {ops : Array Oper} {o : Oper} {a : Act} {w : World} {K : Act → World → Prop} {Q : Exit → Act → World → Prop} {E : Prop}
    (hg : o.guard = none) (s x : Operand) (t : TypeId) (hop : o.op = Op.call { callee := Callee.builtin Builtin.append, args := #[s, x], argTypes := #[t, t] })
    (W0 : World) (e : TypeId) (i : TypeInfo) (ht : P.underlying t = some (.slice e)) (hi : P.info? e = some i) (hz : i.zero = some (.int .i64 0)) (hsize : i.size = 1) (hby : i.bytes = 8)
    (v : Value) (n : Nat) (xs : List Value) (hs : a.eval s = v) (hown : w.ownsRow W0.heap.size e 1 v n xs)
    (vx : Value) (news : List Int) (hx : a.eval x = vx) (hsrc : SrcI w vx news)
    (h63 : n + news.length ≤ 1099511627776) (hb : Below W0.heap.size W0 w)
    (h : ∀ v' w', w'.ownsRow W0.heap.size e 1 v' (n + news.length) (xs ++ cellsI news) → Below W0.heap.size W0 w' → (∀ k cs t, Blk w k cs t → v.ownBlock ≠ some k → Blk w' k cs t) → K (a.put o.dst v') w') :
    if Region.wanted o (yielded ops a.tmps) = true then Oper.wp P o a w K Q else E :=
  step_append_src hg s x t hop W0.heap.size e i ht hi hz hsize hby v n xs hs hown vx news hx hsrc h63 hb.size fun v' w' h1 h2 =>
    h v' w' h1 (hb.grown h2 hb.size (fun _k hk => own_block hown hk)) (fun _k _cs _t hB hne => hB.grown h2 (fun e => hne e.symm))
theorem own_empty {w : World} {p base : Nat} {e : TypeId} (hB : Blk w p #[] e) (hp : base ≤ p) : w.ownsRow base e 1 (.slice (some ⟨p, 0, none⟩) 0 0) 0 [] :=
  ⟨rfl, .inr ⟨p, 0, #[], rfl, hp, hB, Nat.le_refl _, Nat.zero_le _, rfl, rfl⟩⟩
theorem own_low {w : World} {B B' : Nat} {e : TypeId} {sz : Nat} {v : Value} {n : Nat} {xs : List Value} (h : w.ownsRow B e sz v n xs) (hB : B' ≤ B) : w.ownsRow B' e sz v n xs := by
  obtain ⟨h1, h2 | ⟨g, cap, cur, h3, h4, h5⟩⟩ := h
  · exact ⟨h1, .inl h2⟩
  · exact ⟨h1, .inr ⟨g, cap, cur, h3, Nat.le_trans hB h4, h5⟩⟩
theorem src_one {w : World} {p : Nat} {x : Int} {t : TypeId} (hB : Blk w p #[.int .i64 x] t) : SrcI w (.slice (some ⟨p, 0, none⟩) 1 1) [x] := by
  refine ⟨some ⟨p, 0, none⟩, 1, rfl, (fun h => by cases h), fun ad had j u hj => ?_⟩
  cases had
  have hj0 : j = 0 := by
    have := (List.getElem?_eq_some_iff.1 hj).1
    simp [cellsI] at this; exact this
  subst hj0
  have e : ((⟨p, 0, none⟩ : Addr).add 0) = ⟨p, 0, none⟩ := by simp [Addr.add]
  rw [e, hB.cell 0, ← hj]; rfl
theorem src_nil (w : World) : SrcI w (.slice none 0 0) [] := ⟨none, 0, rfl, fun _ => ⟨rfl, rfl⟩, fun _ h => by cases h⟩
theorem cellsI_app (l r : List Int) : cellsI (l ++ r) = cellsI l ++ cellsI r := by unfold cellsI; rw [List.map_append]

theorem own_fin {w : World} {B : Nat} {e : TypeId} {v : Value} {o : List Int} {x : Int} {j : Nat} (h : w.ownsRow B e 1 v (0 + (o.take j).length + [x].length + (o.drop j).length) ([] ++ cellsI (o.take j) ++ cellsI [x] ++ cellsI (o.drop j))) (hins : insT x o = o.take j ++ x :: o.drop j) :
    w.ownsRow B e 1 v (insT x o).length (cellsI (insT x o)) := by
  have e1 : (insT x o).length = 0 + (o.take j).length + [x].length + (o.drop j).length := by rw [hins]; simp; omega
  have e2 : cellsI (insT x o) = [] ++ cellsI (o.take j) ++ cellsI [x] ++ cellsI (o.drop j) := by
    rw [hins, show o.take j ++ x :: o.drop j = o.take j ++ ([x] ++ o.drop j) from rfl, cellsI_app, cellsI_app, List.nil_append, List.append_assoc]
  rw [e1, e2]; exact h
/-- Pieces of a row read as slices. -/
theorem src_take {w : World} {g cap j n : Nat} {o : List Int} (hc : ∀ i, i < o.length → w.cell? ⟨g, i, none⟩ = some (.int .i64 (o.getD i 0))) (hj : j ≤ o.length) (hn : n = j) : SrcI w (.slice (some ⟨g, 0, none⟩) n cap) (o.take j) := by
  subst hn
  refine ⟨some ⟨g, 0, none⟩, cap, by simp [Nat.min_eq_left hj], (fun h => by cases h), fun ad had i u hu => ?_⟩
  cases had
  have hi := (List.getElem?_eq_some_iff.1 hu).1
  simp [cellsI] at hi
  have e : ((⟨g, 0, none⟩ : Addr).add i) = ⟨g, i, none⟩ := by
    unfold Addr.add
    by_cases c : i = 0
    · subst c; simp
    · simp [c]
  rw [e, hc i (by omega), ← hu]
  unfold cellsI
  rw [List.getElem?_map, List.getElem?_take, if_pos (by omega), List.getElem?_eq_getElem (by omega), getD_get _ _ _ (by omega)]; rfl
theorem src_drop {w : World} {g cap j n p : Nat} {o : List Int} (hc : ∀ i, i < o.length → w.cell? ⟨g, i, none⟩ = some (.int .i64 (o.getD i 0))) (hj : j ≤ o.length) (hn : n = o.length - j) (hp : p = j ∨ j = o.length) : SrcI w (.slice (some ⟨g, p, none⟩) n cap) (o.drop j) := by
  subst hn
  refine ⟨some ⟨g, p, none⟩, cap, by simp, (fun h => by cases h), fun ad had i u hu => ?_⟩
  cases had
  have hi := (List.getElem?_eq_some_iff.1 hu).1
  simp [cellsI] at hi
  have hpj : p = j := by omega
  subst hpj
  have e : ((⟨g, p, none⟩ : Addr).add i) = ⟨g, p + i, none⟩ := by
    unfold Addr.add
    by_cases c : i = 0
    · subst c; simp
    · simp [c]
  rw [e, hc (p + i) (by omega), ← hu]
  unfold cellsI
  rw [List.getElem?_map, List.getElem?_drop, List.getElem?_eq_getElem (by omega), getD_get _ _ _ (by omega)]; rfl
theorem own_cells {w : World} {g : Nat} {e : TypeId} {cur : Array Value} {o : List Int} (h : w.heap[g]? = some (.cells cur e (0, 0))) (ht : cur.toList.take (o.length * 1) = cellsI o) : ∀ i, i < o.length → w.cell? ⟨g, i, none⟩ = some (.int .i64 (o.getD i 0)) := fun i hi => by
  have hg := cellsI_get hi
  have e : w.cell? ⟨g, i, none⟩ = cur[i]? := by simp [World.cell?, h]
  rw [e, ← Array.getElem?_toList]
  rw [← ht, List.getElem?_take, if_pos (by omega)] at hg
  exact hg

set_option maxRecDepth 100000 in
set_option maxHeartbeats 8000000 in
theorem rtimes_c (l : List Int) (a : Option Addr) (cap : Nat) (w : World) (hl : l.length ≤ 1000000000) (hA : ArgI w a l) :
    Calls Try.prog 31 #[.slice a l.length cap] w (RetV w fun v w' => w'.ownsRow w.heap.size 2 1 v (timesL l).length (cellsI (timesL l))) := by
  have HA := hidE hA; clear hA
  obtain ⟨i0, hi, hz0, hz1, hz2⟩ := info_parts Try.infoI64
  have HI := hidE hi; have HZ0 := hidE hz0; have HZ1 := hidE hz1; have HZ2 := hidE hz2
  clear hi hz0 hz1 hz2
  go_enter Try.func31, Try.ntmps31
  go_wp2
  go_loopg [3, 4, 5] l.length (fun g vf vi _ wr => ∃ (k : Nat) (v : Value), v = vf ∧ k ≤ l.length ∧ l.length - k ≤ g ∧ vi = .int .i64 k ∧ Below w.heap.size w wr ∧ wr.ownsRow w.heap.size 2 1 v (timesL (l.take k)).length (cellsI (timesL (l.take k))))
  case atStart => exact ⟨0, .slice none 0 0, rfl, Nat.zero_le _, by omega, rfl, Below.refl _ _, ⟨rfl, .inl ⟨rfl, rfl⟩⟩⟩
  case round =>
    obtain ⟨k, v, rfl, hk, hg, rfl, hb, ho⟩ := hrel
    have HB := hidE hb; have HO := hidE ho; clear hb ho
    by_cases hlt : k < l.length
    · obtain ⟨b, off, rfl, hbb, hc⟩ := (HA.out.past HB.out) (by omega)
      have d0 := hc k hlt
      have HT := hidE (timesL_step hlt)
      have htl := timesL_len (l.take k)
      rw [List.length_take] at htl
      generalize timesL (l.take k) = o at *
      generalize l.getD k 0 = x at *
      have hsz := HB.out.size
      have hho := HO.out
      obtain ⟨hol, ⟨rfl, ho0⟩ | ⟨g, co, cur, rfl, hgB, hgh, hlc, hcm, hcs, hct⟩⟩ := hho
      · have : o = [] := List.eq_nil_of_length_eq_zero ho0
        subst this
        have HR := hidE (show insT x [] = [x] from rfl)
        clear hc hol ho0
        obtain ⟨wo, rfl⟩ : ∃ wo : World, wo = wr := ⟨_, rfl⟩
        go_wp2_with fail
        go_loopg [5] 0 (fun g2 vj wr2 => vj = .int .i64 0 ∧ wr2 = wo)
        case atStart => exact ⟨rfl, rfl⟩
        case round =>
          obtain ⟨rfl, rfl⟩ := hrel
          go_wp2_with fail
          refine wp_region_past_lit (by kernel_rfl) (by kernel_rfl) ?_
          repeat (go_big_quiet_step (fail))
          refine wpQuiet_nil ?_
          rintro _ ⟨x', rfl⟩
          have o1 := own_below HO.out x'.2
          have o2 : Below w.heap.size w x'.1 := by have := HB.out; (repeat (first | exact Below.refl _ _ | assumption | refine balloc ?_ _ | refine below_drewN ?_ _ | refine bstep (by assumption) ?_ | refine bstep (Past.prop _) ?_ | refine Below.setCell ?_ (by first | exact Nat.le_refl _ | (simp; done) | (simp; omega)) _))
          have o3 : b < x'.1.heap.size := Nat.lt_of_lt_of_le hbb x'.2.size
          have o4 := (x'.2.cell (p := ⟨b, off + k, none⟩) hbb).trans d0
          clear HO HB d0 hbb
          generalize x'.1 = w5 at *
          go_wp2_with fail
          refine wp_region_past_lit (by kernel_rfl) (by kernel_rfl) ?_
          repeat (go_big_quiet_step (fail))
          refine wpQuiet_nil ?_
          rintro _ ⟨x', rfl⟩
          have o1 := own_below o1 x'.2
          have o2' : Below w.heap.size w x'.1 := by (repeat (first | exact Below.refl _ _ | assumption | refine balloc ?_ _ | refine below_drewN ?_ _ | refine bstep (by assumption) ?_ | refine bstep (Past.prop _) ?_ | refine Below.setCell ?_ (by first | exact Nat.le_refl _ | (simp; done) | (simp; omega)) _))
          have o4 := (x'.2.cell (p := ⟨b, off + k, none⟩) o3).trans o4
          have o3 : b < x'.1.heap.size := Nat.lt_of_lt_of_le o3 x'.2.size
          clear o2
          generalize x'.1 = w6 at *
          go_wp2_with fail
          have HS3 := hidE (fun (w' : World) (_ : Below w6.heap.size w6 w') => src_nil w')
          have HS1 := hidE (fun (w' : World) (_ : Below w6.heap.size w6 w') => src_nil w')
          have ho2 := hidE o2'
          go_region_law (first | (refine step_app rfl (.tmp 44) (.tmp 47) 78 rfl w6 2 i0 Try.underlying78 HI.out HZ0.out HZ1.out HZ2.out (.slice (some ⟨w6.heap.size, 0, none⟩) 0 0) 0 [] rfl (own_empty (p := w6.heap.size) ((Blk.made _ _ _).drew 1) (by omega)) _ _ rfl (HS1.out _ (by (repeat (first | exact Below.refl _ _ | assumption | refine balloc ?_ _ | refine below_drewN ?_ _ | refine bstep (by assumption) ?_ | refine bstep (Past.prop _) ?_ | refine Below.setCell ?_ (by first | exact Nat.le_refl _ | (simp; done) | (simp; omega)) _)))) (by (try simp only [List.length_nil]); omega) (by (repeat (first | exact Below.refl _ _ | assumption | refine balloc ?_ _ | refine below_drewN ?_ _ | refine bstep (by assumption) ?_ | refine bstep (Past.prop _) ?_ | refine Below.setCell ?_ (by first | exact Nat.le_refl _ | (simp; done) | (simp; omega)) _))) ?_; intro v1 w1 own1 hb1 keep1; have hcell1 := (hb1.cell (p := ⟨b, off + k, none⟩) o3).trans o4; have hsz1 := hb1.size) | (refine step_app rfl (.tmp 44) (.tmp 47) 78 rfl w6 2 i0 Try.underlying78 HI.out HZ0.out HZ1.out HZ2.out (.slice (some ⟨w6.heap.size, 0, none⟩) 0 0) 0 [] rfl (own_empty (p := w6.heap.size) (((Blk.made _ _ _).alloc _).drew 1) (by omega)) _ _ rfl (HS1.out _ (by (repeat (first | exact Below.refl _ _ | assumption | refine balloc ?_ _ | refine below_drewN ?_ _ | refine bstep (by assumption) ?_ | refine bstep (Past.prop _) ?_ | refine Below.setCell ?_ (by first | exact Nat.le_refl _ | (simp; done) | (simp; omega)) _)))) (by (try simp only [List.length_nil]); omega) (by (repeat (first | exact Below.refl _ _ | assumption | refine balloc ?_ _ | refine below_drewN ?_ _ | refine bstep (by assumption) ?_ | refine bstep (Past.prop _) ?_ | refine Below.setCell ?_ (by first | exact Nat.le_refl _ | (simp; done) | (simp; omega)) _))) ?_; intro v1 w1 own1 hb1 keep1; have hcell1 := (hb1.cell (p := ⟨b, off + k, none⟩) o3).trans o4; have hsz1 := hb1.size) | (refine step_app rfl (.tmp 44) (.tmp 47) 78 rfl w6 2 i0 Try.underlying78 HI.out HZ0.out HZ1.out HZ2.out (.slice (some ⟨w6.heap.size + 1, 0, none⟩) 0 0) 0 [] rfl (own_empty (p := w6.heap.size + 1) ((Blk.made_at _ _ _ _ (by simp)).drew 1) (by omega)) _ _ rfl (HS1.out _ (by (repeat (first | exact Below.refl _ _ | assumption | refine balloc ?_ _ | refine below_drewN ?_ _ | refine bstep (by assumption) ?_ | refine bstep (Past.prop _) ?_ | refine Below.setCell ?_ (by first | exact Nat.le_refl _ | (simp; done) | (simp; omega)) _)))) (by (try simp only [List.length_nil]); omega) (by (repeat (first | exact Below.refl _ _ | assumption | refine balloc ?_ _ | refine below_drewN ?_ _ | refine bstep (by assumption) ?_ | refine bstep (Past.prop _) ?_ | refine Below.setCell ?_ (by first | exact Nat.le_refl _ | (simp; done) | (simp; omega)) _))) ?_; intro v1 w1 own1 hb1 keep1; have hcell1 := (hb1.cell (p := ⟨b, off + k, none⟩) o3).trans o4; have hsz1 := hb1.size) | (refine step_app rfl (.tmp 48) (.tmp 53) 78 rfl w6 2 i0 Try.underlying78 HI.out HZ0.out HZ1.out HZ2.out _ _ _ rfl (own1.alloc _) _ [x] rfl (src_one (Blk.made _ _ _)) (by (try simp only [List.length_cons, List.length_nil]); omega) (by (repeat (first | exact Below.refl _ _ | assumption | refine balloc ?_ _ | refine below_drewN ?_ _ | refine bstep (by assumption) ?_ | refine bstep (Past.prop _) ?_ | refine Below.setCell ?_ (by first | exact Nat.le_refl _ | (simp; done) | (simp; omega)) _))) ?_; intro v2 w2 own2 hb2 keep2) | (refine step_app rfl (.tmp 48) (.tmp 53) 78 rfl w6 2 i0 Try.underlying78 HI.out HZ0.out HZ1.out HZ2.out _ _ _ rfl (own1) _ [x] rfl (src_one (keep1 w6.heap.size _ _ (((Blk.made _ _ _).alloc _).drew 1) (by simp [Value.ownBlock]))) (by (try simp only [List.length_cons, List.length_nil]); omega) (by (repeat (first | exact Below.refl _ _ | assumption | refine balloc ?_ _ | refine below_drewN ?_ _ | refine bstep (by assumption) ?_ | refine bstep (Past.prop _) ?_ | refine Below.setCell ?_ (by first | exact Nat.le_refl _ | (simp; done) | (simp; omega)) _))) ?_; intro v2 w2 own2 hb2 keep2) | (refine step_app rfl (.tmp 48) (.tmp 53) 78 rfl w6 2 i0 Try.underlying78 HI.out HZ0.out HZ1.out HZ2.out _ _ _ rfl (own1) _ [x] rfl (src_one (keep1 (w6.heap.size + 1) _ _ ((Blk.made_at _ _ _ _ (by simp)).drew 1) (by simp [Value.ownBlock]))) (by (try simp only [List.length_cons, List.length_nil]); omega) (by (repeat (first | exact Below.refl _ _ | assumption | refine balloc ?_ _ | refine below_drewN ?_ _ | refine bstep (by assumption) ?_ | refine bstep (Past.prop _) ?_ | refine Below.setCell ?_ (by first | exact Nat.le_refl _ | (simp; done) | (simp; omega)) _))) ?_; intro v2 w2 own2 hb2 keep2) | (refine step_app rfl (.tmp 54) (.tmp 57) 78 rfl w6 2 i0 Try.underlying78 HI.out HZ0.out HZ1.out HZ2.out _ _ _ rfl own2 _ _ rfl (HS3.out _ (by (repeat (first | exact Below.refl _ _ | assumption | refine balloc ?_ _ | refine below_drewN ?_ _ | refine bstep (by assumption) ?_ | refine bstep (Past.prop _) ?_ | refine Below.setCell ?_ (by first | exact Nat.le_refl _ | (simp; done) | (simp; omega)) _)))) (by (try simp only [List.length_cons, List.length_nil]); omega) (by (repeat (first | exact Below.refl _ _ | assumption | refine balloc ?_ _ | refine below_drewN ?_ _ | refine bstep (by assumption) ?_ | refine bstep (Past.prop _) ?_ | refine Below.setCell ?_ (by first | exact Nat.le_refl _ | (simp; done) | (simp; omega)) _))) ?_; intro v3 w3 own3 hb3 keep3))
          all_goals
            go_wp2
            have hown3 := own_fin (o := []) (j := 0) own3 rfl
            rw [← HT.out] at hown3
            have HO3 := hidE (own_low hown3 o2'.size); have HB3 := hidE (o2'.trans (hb3.mono o2'.size))
            clear hown3
            go_roundg (l.length - (k + 1))
            case measure => omega
            case rel => exact ⟨k + 1, v3, rfl, by omega, Nat.le_refl _, by go_num, HB3.out, HO3.out⟩
      · have hcells := own_cells hgh hct
        have hglt : g < wr.heap.size := lt_of_block hgh
        have HC := hidE hcells
        clear hc hol hgh hct hcs hcells
        have hcm' : co ≤ 9223372036854775807 := hcm
        obtain ⟨wo, rfl⟩ : ∃ wo : World, wo = wr := ⟨_, rfl⟩
        go_wp2_with fail
        go_loopg [5] o.length (fun g2 vj wr2 => ∃ j : Nat, vj = .int .i64 j ∧ j ≤ o.length ∧ o.length - j ≤ g2 ∧ (∀ i, i < j → o.getD i 0 < x) ∧ Below wo.heap.size wo wr2)
        case atStart => exact ⟨0, rfl, Nat.zero_le _, by omega, fun i hi => by omega, Below.refl _ _⟩
        case round =>
          obtain ⟨j, rfl, hj, hg2, hj2, hbr⟩ := hrel
          have HJ := hidE hj2; have HBR := hidE hbr
          have d1 := (hbr.cell (p := ⟨b, off + k, none⟩) hbb).trans d0
          have hbb2 := Nat.lt_of_lt_of_le hbb hbr.size
          have hgl2 := Nat.lt_of_lt_of_le hglt hbr.size
          clear hj2 hbr
          by_cases hjl : j < o.length
          · have c0 := (HBR.out.cell (p := ⟨g, j, none⟩) hglt).trans (HC.out j hjl)
            have hjd : decide ((j : Int) < (o.length : Int)) = true := decide_eq_true (by omega)
            by_cases hjx : o.getD j 0 < x
            · have HJ2 := hidE (show ∀ i, i < j + 1 → o.getD i 0 < x from fun i hi => by
                by_cases e : i = j
                · rw [e]; exact hjx
                · exact HJ.out i (by omega))
              have hd : decide (o.getD j 0 < x) = true := decide_eq_true hjx
              clear hjx
              generalize o.getD j 0 = y at *
              go_wp2_with fail
              refine wp_region_past_lit (by kernel_rfl) (by kernel_rfl) ?_
              have hcp := Past.cell (W := wr)
              repeat (go_big_quiet_step (fail))
              refine wpQuiet_nil ?_
              rintro _ ⟨x', rfl⟩
              have o1 := bstep x'.2 HBR.out
              clear hcp d1 c0
              generalize x'.1 = w5 at *
              go_wp2
              go_roundg (o.length - (j + 1))
              case measure => omega
              case rel => exact ⟨j + 1, by go_num, by omega, Nat.le_refl _, HJ2.out, o1⟩
            · have hd : decide (o.getD j 0 < x) = false := decide_eq_false hjx
              have HI2 := hidE (insT_at (x := x) (o := o) (k := j) hj HJ.out (fun _ => hjx))
              by_cases hjq : o.getD j 0 = x
              · have HS := hidE (show insT x o = o by rw [HI2.out, if_pos ⟨hjl, hjq⟩])
                have hde : (o.getD j 0 == x) = true := beq_iff_eq.2 hjq
                clear hjx hjq HI2
                generalize o.getD j 0 = y at *
                go_wp2_with fail
                refine wp_region_past_lit (by kernel_rfl) (by kernel_rfl) ?_
                have hcp := Past.cell (W := wr)
                repeat (go_big_quiet_step (fail))
                refine wpQuiet_nil ?_
                rintro _ ⟨x', rfl⟩
                have o1 := bstep x'.2 HBR.out
                have e1 := (x'.2.cell (p := ⟨b, off + k, none⟩) hbb2).trans d1
                have e2 := (x'.2.cell (p := ⟨g, j, none⟩) hgl2).trans c0
                have hb5 := Nat.lt_of_lt_of_le hbb2 x'.2.size
                have hg5 := Nat.lt_of_lt_of_le hgl2 x'.2.size
                clear hcp d1 c0 HBR
                generalize x'.1 = w5 at *
                go_wp2_with fail
                refine wp_region_past_lit (by kernel_rfl) (by kernel_rfl) ?_
                have hcp := Past.cell (W := w5)
                repeat (go_big_quiet_step (fail))
                refine wpQuiet_nil ?_
                rintro _ ⟨x', rfl⟩
                have o1 := bstep x'.2 o1
                clear hcp e1 e2
                generalize x'.1 = w6 at *
                have HB6 := hidE (HB.out.trans (o1.mono hsz))
                have HO6 := hidE (show w6.ownsRow w.heap.size 2 1 (.slice (some ⟨g, 0, none⟩) o.length co) (timesL (l.take (k + 1))).length (cellsI (timesL (l.take (k + 1)))) by rw [HT.out, HS.out]; exact own_below HO.out o1)
                clear o1
                go_wp2
                go_roundg (l.length - (k + 1))
                case measure => omega
                case rel => exact ⟨k + 1, _, rfl, by omega, Nat.le_refl _, by go_num, HB6.out, HO6.out⟩
              · have HI3 := hidE (show insT x o = o.take j ++ x :: o.drop j by rw [HI2.out, if_neg (fun q => hjq q.2)])
                have hde : (o.getD j 0 == x) = false := beq_eq_false_iff_ne.2 hjq
                clear hjx hjq HI2 HJ
                generalize o.getD j 0 = y at *
                go_wp2_with fail
                refine wp_region_past_lit (by kernel_rfl) (by kernel_rfl) ?_
                have hcp := Past.cell (W := wr)
                repeat (go_big_quiet_step (fail))
                refine wpQuiet_nil ?_
                rintro _ ⟨x', rfl⟩
                have o1 := bstep x'.2 HBR.out
                have e1 := (x'.2.cell (p := ⟨b, off + k, none⟩) hbb2).trans d1
                have e2 := (x'.2.cell (p := ⟨g, j, none⟩) hgl2).trans c0
                have hb5 := Nat.lt_of_lt_of_le hbb2 x'.2.size
                have hg5 := Nat.lt_of_lt_of_le hgl2 x'.2.size
                clear hcp d1 HBR c0
                generalize x'.1 = w5 at *
                go_wp2_with fail
                refine wp_region_past_lit (by kernel_rfl) (by kernel_rfl) ?_
                have hcp := Past.cell (W := w5)
                repeat (go_big_quiet_step (fail))
                refine wpQuiet_nil ?_
                rintro _ ⟨x', rfl⟩
                have o1 := bstep x'.2 o1
                have o4 := (x'.2.cell (p := ⟨b, off + k, none⟩) hb5).trans e1
                have o3 := Nat.lt_of_lt_of_le hb5 x'.2.size
                have hg6 := Nat.lt_of_lt_of_le hg5 x'.2.size
                clear hcp e1 hb5 hg5 e2
                generalize x'.1 = w6 at *
                have o2' := HB.out.trans (o1.mono hsz)
                have HCW := hidE (fun (w' : World) (hw' : Below w6.heap.size w6 w') (i : Nat) (hi : i < o.length) => ((bstep hw' o1).cell (p := ⟨g, i, none⟩) hglt).trans (HC.out i hi))
                have HS1 := hidE (fun (n : Nat) (hn : n = j) (w' : World) (hw' : Below w6.heap.size w6 w') => src_take (cap := co) (n := n) (HCW.out w' hw') hj hn)
                have HS3 := hidE (fun (n p c : Nat) (hn : n = o.length - j) (hp : p = j ∨ j = o.length) (w' : World) (hw' : Below w6.heap.size w6 w') => src_drop (cap := c) (n := n) (p := p) (HCW.out w' hw') hj hn hp)
                clear HC HO HB d0 o1
                have hjco : j ≤ co := by omega
                have hjcz : (j : Int) ≤ (co : Int) := by omega
                by_cases hjc : j = co
                · subst hjc
                  go_wp2_with fail
                  go_region_law (first | (refine step_app rfl (.tmp 44) (.tmp 47) 78 rfl w6 2 i0 Try.underlying78 HI.out HZ0.out HZ1.out HZ2.out (.slice (some ⟨w6.heap.size, 0, none⟩) 0 0) 0 [] rfl (own_empty (p := w6.heap.size) ((Blk.made _ _ _).drew 1) (by omega)) _ _ rfl (HS1.out _ (by omega) _ (by (repeat (first | exact Below.refl _ _ | assumption | refine balloc ?_ _ | refine below_drewN ?_ _ | refine bstep (by assumption) ?_ | refine bstep (Past.prop _) ?_ | refine Below.setCell ?_ (by first | exact Nat.le_refl _ | (simp; done) | (simp; omega)) _)))) (by (try simp only [List.length_take]); omega) (by (repeat (first | exact Below.refl _ _ | assumption | refine balloc ?_ _ | refine below_drewN ?_ _ | refine bstep (by assumption) ?_ | refine bstep (Past.prop _) ?_ | refine Below.setCell ?_ (by first | exact Nat.le_refl _ | (simp; done) | (simp; omega)) _))) ?_; intro v1 w1 own1 hb1 keep1; have hcell1 := (hb1.cell (p := ⟨b, off + k, none⟩) o3).trans o4; have hsz1 := hb1.size) | (refine step_app rfl (.tmp 44) (.tmp 47) 78 rfl w6 2 i0 Try.underlying78 HI.out HZ0.out HZ1.out HZ2.out (.slice (some ⟨w6.heap.size, 0, none⟩) 0 0) 0 [] rfl (own_empty (p := w6.heap.size) (((Blk.made _ _ _).alloc _).drew 1) (by omega)) _ _ rfl (HS1.out _ (by omega) _ (by (repeat (first | exact Below.refl _ _ | assumption | refine balloc ?_ _ | refine below_drewN ?_ _ | refine bstep (by assumption) ?_ | refine bstep (Past.prop _) ?_ | refine Below.setCell ?_ (by first | exact Nat.le_refl _ | (simp; done) | (simp; omega)) _)))) (by (try simp only [List.length_take]); omega) (by (repeat (first | exact Below.refl _ _ | assumption | refine balloc ?_ _ | refine below_drewN ?_ _ | refine bstep (by assumption) ?_ | refine bstep (Past.prop _) ?_ | refine Below.setCell ?_ (by first | exact Nat.le_refl _ | (simp; done) | (simp; omega)) _))) ?_; intro v1 w1 own1 hb1 keep1; have hcell1 := (hb1.cell (p := ⟨b, off + k, none⟩) o3).trans o4; have hsz1 := hb1.size) | (refine step_app rfl (.tmp 44) (.tmp 47) 78 rfl w6 2 i0 Try.underlying78 HI.out HZ0.out HZ1.out HZ2.out (.slice (some ⟨w6.heap.size + 1, 0, none⟩) 0 0) 0 [] rfl (own_empty (p := w6.heap.size + 1) ((Blk.made_at _ _ _ _ (by simp)).drew 1) (by omega)) _ _ rfl (HS1.out _ (by omega) _ (by (repeat (first | exact Below.refl _ _ | assumption | refine balloc ?_ _ | refine below_drewN ?_ _ | refine bstep (by assumption) ?_ | refine bstep (Past.prop _) ?_ | refine Below.setCell ?_ (by first | exact Nat.le_refl _ | (simp; done) | (simp; omega)) _)))) (by (try simp only [List.length_take]); omega) (by (repeat (first | exact Below.refl _ _ | assumption | refine balloc ?_ _ | refine below_drewN ?_ _ | refine bstep (by assumption) ?_ | refine bstep (Past.prop _) ?_ | refine Below.setCell ?_ (by first | exact Nat.le_refl _ | (simp; done) | (simp; omega)) _))) ?_; intro v1 w1 own1 hb1 keep1; have hcell1 := (hb1.cell (p := ⟨b, off + k, none⟩) o3).trans o4; have hsz1 := hb1.size) | (refine step_app rfl (.tmp 48) (.tmp 53) 78 rfl w6 2 i0 Try.underlying78 HI.out HZ0.out HZ1.out HZ2.out _ _ _ rfl (own1.alloc _) _ [x] rfl (src_one (Blk.made _ _ _)) (by (try simp only [List.length_cons, List.length_nil, List.length_take]); omega) (by (repeat (first | exact Below.refl _ _ | assumption | refine balloc ?_ _ | refine below_drewN ?_ _ | refine bstep (by assumption) ?_ | refine bstep (Past.prop _) ?_ | refine Below.setCell ?_ (by first | exact Nat.le_refl _ | (simp; done) | (simp; omega)) _))) ?_; intro v2 w2 own2 hb2 keep2) | (refine step_app rfl (.tmp 48) (.tmp 53) 78 rfl w6 2 i0 Try.underlying78 HI.out HZ0.out HZ1.out HZ2.out _ _ _ rfl (own1) _ [x] rfl (src_one (keep1 w6.heap.size _ _ (((Blk.made _ _ _).alloc _).drew 1) (by simp [Value.ownBlock]))) (by (try simp only [List.length_cons, List.length_nil, List.length_take]); omega) (by (repeat (first | exact Below.refl _ _ | assumption | refine balloc ?_ _ | refine below_drewN ?_ _ | refine bstep (by assumption) ?_ | refine bstep (Past.prop _) ?_ | refine Below.setCell ?_ (by first | exact Nat.le_refl _ | (simp; done) | (simp; omega)) _))) ?_; intro v2 w2 own2 hb2 keep2) | (refine step_app rfl (.tmp 48) (.tmp 53) 78 rfl w6 2 i0 Try.underlying78 HI.out HZ0.out HZ1.out HZ2.out _ _ _ rfl (own1) _ [x] rfl (src_one (keep1 (w6.heap.size + 1) _ _ ((Blk.made_at _ _ _ _ (by simp)).drew 1) (by simp [Value.ownBlock]))) (by (try simp only [List.length_cons, List.length_nil, List.length_take]); omega) (by (repeat (first | exact Below.refl _ _ | assumption | refine balloc ?_ _ | refine below_drewN ?_ _ | refine bstep (by assumption) ?_ | refine bstep (Past.prop _) ?_ | refine Below.setCell ?_ (by first | exact Nat.le_refl _ | (simp; done) | (simp; omega)) _))) ?_; intro v2 w2 own2 hb2 keep2) | (refine step_app rfl (.tmp 54) (.tmp 57) 78 rfl w6 2 i0 Try.underlying78 HI.out HZ0.out HZ1.out HZ2.out _ _ _ rfl own2 _ _ rfl (HS3.out _ _ _ (by omega) (by omega) _ (by (repeat (first | exact Below.refl _ _ | assumption | refine balloc ?_ _ | refine below_drewN ?_ _ | refine bstep (by assumption) ?_ | refine bstep (Past.prop _) ?_ | refine Below.setCell ?_ (by first | exact Nat.le_refl _ | (simp; done) | (simp; omega)) _)))) (by (try simp only [List.length_cons, List.length_nil, List.length_take, List.length_drop]); omega) (by (repeat (first | exact Below.refl _ _ | assumption | refine balloc ?_ _ | refine below_drewN ?_ _ | refine bstep (by assumption) ?_ | refine bstep (Past.prop _) ?_ | refine Below.setCell ?_ (by first | exact Nat.le_refl _ | (simp; done) | (simp; omega)) _))) ?_; intro v3 w3 own3 hb3 keep3))
                  all_goals
                    go_wp2
                    have hown3 := own_fin own3 HI3.out
                    rw [← HT.out] at hown3
                    have HO3 := hidE (own_low hown3 o2'.size); have HB3 := hidE (o2'.trans (hb3.mono o2'.size))
                    clear hown3
                    go_roundg (l.length - (k + 1))
                    case measure => omega
                    case rel => exact ⟨k + 1, v3, rfl, by omega, Nat.le_refl _, by go_num, HB3.out, HO3.out⟩
                · have hjce : ¬ co = j := fun h => hjc h.symm
                  go_wp2_with fail
                  go_region_law (first | (refine step_app rfl (.tmp 44) (.tmp 47) 78 rfl w6 2 i0 Try.underlying78 HI.out HZ0.out HZ1.out HZ2.out (.slice (some ⟨w6.heap.size, 0, none⟩) 0 0) 0 [] rfl (own_empty (p := w6.heap.size) ((Blk.made _ _ _).drew 1) (by omega)) _ _ rfl (HS1.out _ (by omega) _ (by (repeat (first | exact Below.refl _ _ | assumption | refine balloc ?_ _ | refine below_drewN ?_ _ | refine bstep (by assumption) ?_ | refine bstep (Past.prop _) ?_ | refine Below.setCell ?_ (by first | exact Nat.le_refl _ | (simp; done) | (simp; omega)) _)))) (by (try simp only [List.length_take]); omega) (by (repeat (first | exact Below.refl _ _ | assumption | refine balloc ?_ _ | refine below_drewN ?_ _ | refine bstep (by assumption) ?_ | refine bstep (Past.prop _) ?_ | refine Below.setCell ?_ (by first | exact Nat.le_refl _ | (simp; done) | (simp; omega)) _))) ?_; intro v1 w1 own1 hb1 keep1; have hcell1 := (hb1.cell (p := ⟨b, off + k, none⟩) o3).trans o4; have hsz1 := hb1.size) | (refine step_app rfl (.tmp 44) (.tmp 47) 78 rfl w6 2 i0 Try.underlying78 HI.out HZ0.out HZ1.out HZ2.out (.slice (some ⟨w6.heap.size, 0, none⟩) 0 0) 0 [] rfl (own_empty (p := w6.heap.size) (((Blk.made _ _ _).alloc _).drew 1) (by omega)) _ _ rfl (HS1.out _ (by omega) _ (by (repeat (first | exact Below.refl _ _ | assumption | refine balloc ?_ _ | refine below_drewN ?_ _ | refine bstep (by assumption) ?_ | refine bstep (Past.prop _) ?_ | refine Below.setCell ?_ (by first | exact Nat.le_refl _ | (simp; done) | (simp; omega)) _)))) (by (try simp only [List.length_take]); omega) (by (repeat (first | exact Below.refl _ _ | assumption | refine balloc ?_ _ | refine below_drewN ?_ _ | refine bstep (by assumption) ?_ | refine bstep (Past.prop _) ?_ | refine Below.setCell ?_ (by first | exact Nat.le_refl _ | (simp; done) | (simp; omega)) _))) ?_; intro v1 w1 own1 hb1 keep1; have hcell1 := (hb1.cell (p := ⟨b, off + k, none⟩) o3).trans o4; have hsz1 := hb1.size) | (refine step_app rfl (.tmp 44) (.tmp 47) 78 rfl w6 2 i0 Try.underlying78 HI.out HZ0.out HZ1.out HZ2.out (.slice (some ⟨w6.heap.size + 1, 0, none⟩) 0 0) 0 [] rfl (own_empty (p := w6.heap.size + 1) ((Blk.made_at _ _ _ _ (by simp)).drew 1) (by omega)) _ _ rfl (HS1.out _ (by omega) _ (by (repeat (first | exact Below.refl _ _ | assumption | refine balloc ?_ _ | refine below_drewN ?_ _ | refine bstep (by assumption) ?_ | refine bstep (Past.prop _) ?_ | refine Below.setCell ?_ (by first | exact Nat.le_refl _ | (simp; done) | (simp; omega)) _)))) (by (try simp only [List.length_take]); omega) (by (repeat (first | exact Below.refl _ _ | assumption | refine balloc ?_ _ | refine below_drewN ?_ _ | refine bstep (by assumption) ?_ | refine bstep (Past.prop _) ?_ | refine Below.setCell ?_ (by first | exact Nat.le_refl _ | (simp; done) | (simp; omega)) _))) ?_; intro v1 w1 own1 hb1 keep1; have hcell1 := (hb1.cell (p := ⟨b, off + k, none⟩) o3).trans o4; have hsz1 := hb1.size) | (refine step_app rfl (.tmp 48) (.tmp 53) 78 rfl w6 2 i0 Try.underlying78 HI.out HZ0.out HZ1.out HZ2.out _ _ _ rfl (own1.alloc _) _ [x] rfl (src_one (Blk.made _ _ _)) (by (try simp only [List.length_cons, List.length_nil, List.length_take]); omega) (by (repeat (first | exact Below.refl _ _ | assumption | refine balloc ?_ _ | refine below_drewN ?_ _ | refine bstep (by assumption) ?_ | refine bstep (Past.prop _) ?_ | refine Below.setCell ?_ (by first | exact Nat.le_refl _ | (simp; done) | (simp; omega)) _))) ?_; intro v2 w2 own2 hb2 keep2) | (refine step_app rfl (.tmp 48) (.tmp 53) 78 rfl w6 2 i0 Try.underlying78 HI.out HZ0.out HZ1.out HZ2.out _ _ _ rfl (own1) _ [x] rfl (src_one (keep1 w6.heap.size _ _ (((Blk.made _ _ _).alloc _).drew 1) (by simp [Value.ownBlock]))) (by (try simp only [List.length_cons, List.length_nil, List.length_take]); omega) (by (repeat (first | exact Below.refl _ _ | assumption | refine balloc ?_ _ | refine below_drewN ?_ _ | refine bstep (by assumption) ?_ | refine bstep (Past.prop _) ?_ | refine Below.setCell ?_ (by first | exact Nat.le_refl _ | (simp; done) | (simp; omega)) _))) ?_; intro v2 w2 own2 hb2 keep2) | (refine step_app rfl (.tmp 48) (.tmp 53) 78 rfl w6 2 i0 Try.underlying78 HI.out HZ0.out HZ1.out HZ2.out _ _ _ rfl (own1) _ [x] rfl (src_one (keep1 (w6.heap.size + 1) _ _ ((Blk.made_at _ _ _ _ (by simp)).drew 1) (by simp [Value.ownBlock]))) (by (try simp only [List.length_cons, List.length_nil, List.length_take]); omega) (by (repeat (first | exact Below.refl _ _ | assumption | refine balloc ?_ _ | refine below_drewN ?_ _ | refine bstep (by assumption) ?_ | refine bstep (Past.prop _) ?_ | refine Below.setCell ?_ (by first | exact Nat.le_refl _ | (simp; done) | (simp; omega)) _))) ?_; intro v2 w2 own2 hb2 keep2) | (refine step_app rfl (.tmp 54) (.tmp 57) 78 rfl w6 2 i0 Try.underlying78 HI.out HZ0.out HZ1.out HZ2.out _ _ _ rfl own2 _ _ rfl (HS3.out _ _ _ (by omega) (by omega) _ (by (repeat (first | exact Below.refl _ _ | assumption | refine balloc ?_ _ | refine below_drewN ?_ _ | refine bstep (by assumption) ?_ | refine bstep (Past.prop _) ?_ | refine Below.setCell ?_ (by first | exact Nat.le_refl _ | (simp; done) | (simp; omega)) _)))) (by (try simp only [List.length_cons, List.length_nil, List.length_take, List.length_drop]); omega) (by (repeat (first | exact Below.refl _ _ | assumption | refine balloc ?_ _ | refine below_drewN ?_ _ | refine bstep (by assumption) ?_ | refine bstep (Past.prop _) ?_ | refine Below.setCell ?_ (by first | exact Nat.le_refl _ | (simp; done) | (simp; omega)) _))) ?_; intro v3 w3 own3 hb3 keep3))
                  all_goals
                    go_wp2
                    have hown3 := own_fin own3 HI3.out
                    rw [← HT.out] at hown3
                    have HO3 := hidE (own_low hown3 o2'.size); have HB3 := hidE (o2'.trans (hb3.mono o2'.size))
                    clear hown3
                    go_roundg (l.length - (k + 1))
                    case measure => omega
                    case rel => exact ⟨k + 1, v3, rfl, by omega, Nat.le_refl _, by go_num, HB3.out, HO3.out⟩
          · have hje : j = o.length := by omega
            have HI3 := hidE (show insT x o = o.take j ++ x :: o.drop j by rw [insT_at (x := x) (o := o) (k := j) hj HJ.out (fun h => absurd h hjl), if_neg (fun q => hjl q.1)])
            have hjd : decide ((j : Int) < (o.length : Int)) = false := decide_eq_false (by omega)
            have hje1 : j ≤ o.length := by omega
            have hje2 : o.length ≤ j := by omega
            clear hje HJ
            go_wp2_with fail
            refine wp_region_past_lit (by kernel_rfl) (by kernel_rfl) ?_
            have hcp := Past.cell (W := wr)
            repeat (go_big_quiet_step (fail))
            refine wpQuiet_nil ?_
            rintro _ ⟨x', rfl⟩
            have o1 := bstep x'.2 HBR.out
            have e1 := (x'.2.cell (p := ⟨b, off + k, none⟩) hbb2).trans d1
            have hb5 := Nat.lt_of_lt_of_le hbb2 x'.2.size
            have hg5 := Nat.lt_of_lt_of_le hgl2 x'.2.size
            clear hcp d1 HBR
            generalize x'.1 = w5 at *
            go_wp2_with fail
            refine wp_region_past_lit (by kernel_rfl) (by kernel_rfl) ?_
            have hcp := Past.cell (W := w5)
            repeat (go_big_quiet_step (fail))
            refine wpQuiet_nil ?_
            rintro _ ⟨x', rfl⟩
            have o1 := bstep x'.2 o1
            have o4 := (x'.2.cell (p := ⟨b, off + k, none⟩) hb5).trans e1
            have o3 := Nat.lt_of_lt_of_le hb5 x'.2.size
            have hg6 := Nat.lt_of_lt_of_le hg5 x'.2.size
            clear hcp e1 hb5 hg5
            generalize x'.1 = w6 at *
            have o2' := HB.out.trans (o1.mono hsz)
            have HCW := hidE (fun (w' : World) (hw' : Below w6.heap.size w6 w') (i : Nat) (hi : i < o.length) => ((bstep hw' o1).cell (p := ⟨g, i, none⟩) hglt).trans (HC.out i hi))
            have HS1 := hidE (fun (n : Nat) (hn : n = j) (w' : World) (hw' : Below w6.heap.size w6 w') => src_take (cap := co) (n := n) (HCW.out w' hw') hj hn)
            have HS3 := hidE (fun (n p c : Nat) (hn : n = o.length - j) (hp : p = j ∨ j = o.length) (w' : World) (hw' : Below w6.heap.size w6 w') => src_drop (cap := c) (n := n) (p := p) (HCW.out w' hw') hj hn hp)
            clear HC HO HB d0 o1
            have hjco : j ≤ co := by omega
            have hjcz : (j : Int) ≤ (co : Int) := by omega
            by_cases hjc : j = co
            · subst hjc
              go_wp2_with fail
              go_region_law (first | (refine step_app rfl (.tmp 44) (.tmp 47) 78 rfl w6 2 i0 Try.underlying78 HI.out HZ0.out HZ1.out HZ2.out (.slice (some ⟨w6.heap.size, 0, none⟩) 0 0) 0 [] rfl (own_empty (p := w6.heap.size) ((Blk.made _ _ _).drew 1) (by omega)) _ _ rfl (HS1.out _ (by omega) _ (by (repeat (first | exact Below.refl _ _ | assumption | refine balloc ?_ _ | refine below_drewN ?_ _ | refine bstep (by assumption) ?_ | refine bstep (Past.prop _) ?_ | refine Below.setCell ?_ (by first | exact Nat.le_refl _ | (simp; done) | (simp; omega)) _)))) (by (try simp only [List.length_take]); omega) (by (repeat (first | exact Below.refl _ _ | assumption | refine balloc ?_ _ | refine below_drewN ?_ _ | refine bstep (by assumption) ?_ | refine bstep (Past.prop _) ?_ | refine Below.setCell ?_ (by first | exact Nat.le_refl _ | (simp; done) | (simp; omega)) _))) ?_; intro v1 w1 own1 hb1 keep1; have hcell1 := (hb1.cell (p := ⟨b, off + k, none⟩) o3).trans o4; have hsz1 := hb1.size) | (refine step_app rfl (.tmp 44) (.tmp 47) 78 rfl w6 2 i0 Try.underlying78 HI.out HZ0.out HZ1.out HZ2.out (.slice (some ⟨w6.heap.size, 0, none⟩) 0 0) 0 [] rfl (own_empty (p := w6.heap.size) (((Blk.made _ _ _).alloc _).drew 1) (by omega)) _ _ rfl (HS1.out _ (by omega) _ (by (repeat (first | exact Below.refl _ _ | assumption | refine balloc ?_ _ | refine below_drewN ?_ _ | refine bstep (by assumption) ?_ | refine bstep (Past.prop _) ?_ | refine Below.setCell ?_ (by first | exact Nat.le_refl _ | (simp; done) | (simp; omega)) _)))) (by (try simp only [List.length_take]); omega) (by (repeat (first | exact Below.refl _ _ | assumption | refine balloc ?_ _ | refine below_drewN ?_ _ | refine bstep (by assumption) ?_ | refine bstep (Past.prop _) ?_ | refine Below.setCell ?_ (by first | exact Nat.le_refl _ | (simp; done) | (simp; omega)) _))) ?_; intro v1 w1 own1 hb1 keep1; have hcell1 := (hb1.cell (p := ⟨b, off + k, none⟩) o3).trans o4; have hsz1 := hb1.size) | (refine step_app rfl (.tmp 44) (.tmp 47) 78 rfl w6 2 i0 Try.underlying78 HI.out HZ0.out HZ1.out HZ2.out (.slice (some ⟨w6.heap.size + 1, 0, none⟩) 0 0) 0 [] rfl (own_empty (p := w6.heap.size + 1) ((Blk.made_at _ _ _ _ (by simp)).drew 1) (by omega)) _ _ rfl (HS1.out _ (by omega) _ (by (repeat (first | exact Below.refl _ _ | assumption | refine balloc ?_ _ | refine below_drewN ?_ _ | refine bstep (by assumption) ?_ | refine bstep (Past.prop _) ?_ | refine Below.setCell ?_ (by first | exact Nat.le_refl _ | (simp; done) | (simp; omega)) _)))) (by (try simp only [List.length_take]); omega) (by (repeat (first | exact Below.refl _ _ | assumption | refine balloc ?_ _ | refine below_drewN ?_ _ | refine bstep (by assumption) ?_ | refine bstep (Past.prop _) ?_ | refine Below.setCell ?_ (by first | exact Nat.le_refl _ | (simp; done) | (simp; omega)) _))) ?_; intro v1 w1 own1 hb1 keep1; have hcell1 := (hb1.cell (p := ⟨b, off + k, none⟩) o3).trans o4; have hsz1 := hb1.size) | (refine step_app rfl (.tmp 48) (.tmp 53) 78 rfl w6 2 i0 Try.underlying78 HI.out HZ0.out HZ1.out HZ2.out _ _ _ rfl (own1.alloc _) _ [x] rfl (src_one (Blk.made _ _ _)) (by (try simp only [List.length_cons, List.length_nil, List.length_take]); omega) (by (repeat (first | exact Below.refl _ _ | assumption | refine balloc ?_ _ | refine below_drewN ?_ _ | refine bstep (by assumption) ?_ | refine bstep (Past.prop _) ?_ | refine Below.setCell ?_ (by first | exact Nat.le_refl _ | (simp; done) | (simp; omega)) _))) ?_; intro v2 w2 own2 hb2 keep2) | (refine step_app rfl (.tmp 48) (.tmp 53) 78 rfl w6 2 i0 Try.underlying78 HI.out HZ0.out HZ1.out HZ2.out _ _ _ rfl (own1) _ [x] rfl (src_one (keep1 w6.heap.size _ _ (((Blk.made _ _ _).alloc _).drew 1) (by simp [Value.ownBlock]))) (by (try simp only [List.length_cons, List.length_nil, List.length_take]); omega) (by (repeat (first | exact Below.refl _ _ | assumption | refine balloc ?_ _ | refine below_drewN ?_ _ | refine bstep (by assumption) ?_ | refine bstep (Past.prop _) ?_ | refine Below.setCell ?_ (by first | exact Nat.le_refl _ | (simp; done) | (simp; omega)) _))) ?_; intro v2 w2 own2 hb2 keep2) | (refine step_app rfl (.tmp 48) (.tmp 53) 78 rfl w6 2 i0 Try.underlying78 HI.out HZ0.out HZ1.out HZ2.out _ _ _ rfl (own1) _ [x] rfl (src_one (keep1 (w6.heap.size + 1) _ _ ((Blk.made_at _ _ _ _ (by simp)).drew 1) (by simp [Value.ownBlock]))) (by (try simp only [List.length_cons, List.length_nil, List.length_take]); omega) (by (repeat (first | exact Below.refl _ _ | assumption | refine balloc ?_ _ | refine below_drewN ?_ _ | refine bstep (by assumption) ?_ | refine bstep (Past.prop _) ?_ | refine Below.setCell ?_ (by first | exact Nat.le_refl _ | (simp; done) | (simp; omega)) _))) ?_; intro v2 w2 own2 hb2 keep2) | (refine step_app rfl (.tmp 54) (.tmp 57) 78 rfl w6 2 i0 Try.underlying78 HI.out HZ0.out HZ1.out HZ2.out _ _ _ rfl own2 _ _ rfl (HS3.out _ _ _ (by omega) (by omega) _ (by (repeat (first | exact Below.refl _ _ | assumption | refine balloc ?_ _ | refine below_drewN ?_ _ | refine bstep (by assumption) ?_ | refine bstep (Past.prop _) ?_ | refine Below.setCell ?_ (by first | exact Nat.le_refl _ | (simp; done) | (simp; omega)) _)))) (by (try simp only [List.length_cons, List.length_nil, List.length_take, List.length_drop]); omega) (by (repeat (first | exact Below.refl _ _ | assumption | refine balloc ?_ _ | refine below_drewN ?_ _ | refine bstep (by assumption) ?_ | refine bstep (Past.prop _) ?_ | refine Below.setCell ?_ (by first | exact Nat.le_refl _ | (simp; done) | (simp; omega)) _))) ?_; intro v3 w3 own3 hb3 keep3))
              all_goals
                go_wp2
                have hown3 := own_fin own3 HI3.out
                rw [← HT.out] at hown3
                have HO3 := hidE (own_low hown3 o2'.size); have HB3 := hidE (o2'.trans (hb3.mono o2'.size))
                clear hown3
                go_roundg (l.length - (k + 1))
                case measure => omega
                case rel => exact ⟨k + 1, v3, rfl, by omega, Nat.le_refl _, by go_num, HB3.out, HO3.out⟩
            · have hjce : ¬ co = j := fun h => hjc h.symm
              go_wp2_with fail
              go_region_law (first | (refine step_app rfl (.tmp 44) (.tmp 47) 78 rfl w6 2 i0 Try.underlying78 HI.out HZ0.out HZ1.out HZ2.out (.slice (some ⟨w6.heap.size, 0, none⟩) 0 0) 0 [] rfl (own_empty (p := w6.heap.size) ((Blk.made _ _ _).drew 1) (by omega)) _ _ rfl (HS1.out _ (by omega) _ (by (repeat (first | exact Below.refl _ _ | assumption | refine balloc ?_ _ | refine below_drewN ?_ _ | refine bstep (by assumption) ?_ | refine bstep (Past.prop _) ?_ | refine Below.setCell ?_ (by first | exact Nat.le_refl _ | (simp; done) | (simp; omega)) _)))) (by (try simp only [List.length_take]); omega) (by (repeat (first | exact Below.refl _ _ | assumption | refine balloc ?_ _ | refine below_drewN ?_ _ | refine bstep (by assumption) ?_ | refine bstep (Past.prop _) ?_ | refine Below.setCell ?_ (by first | exact Nat.le_refl _ | (simp; done) | (simp; omega)) _))) ?_; intro v1 w1 own1 hb1 keep1; have hcell1 := (hb1.cell (p := ⟨b, off + k, none⟩) o3).trans o4; have hsz1 := hb1.size) | (refine step_app rfl (.tmp 44) (.tmp 47) 78 rfl w6 2 i0 Try.underlying78 HI.out HZ0.out HZ1.out HZ2.out (.slice (some ⟨w6.heap.size, 0, none⟩) 0 0) 0 [] rfl (own_empty (p := w6.heap.size) (((Blk.made _ _ _).alloc _).drew 1) (by omega)) _ _ rfl (HS1.out _ (by omega) _ (by (repeat (first | exact Below.refl _ _ | assumption | refine balloc ?_ _ | refine below_drewN ?_ _ | refine bstep (by assumption) ?_ | refine bstep (Past.prop _) ?_ | refine Below.setCell ?_ (by first | exact Nat.le_refl _ | (simp; done) | (simp; omega)) _)))) (by (try simp only [List.length_take]); omega) (by (repeat (first | exact Below.refl _ _ | assumption | refine balloc ?_ _ | refine below_drewN ?_ _ | refine bstep (by assumption) ?_ | refine bstep (Past.prop _) ?_ | refine Below.setCell ?_ (by first | exact Nat.le_refl _ | (simp; done) | (simp; omega)) _))) ?_; intro v1 w1 own1 hb1 keep1; have hcell1 := (hb1.cell (p := ⟨b, off + k, none⟩) o3).trans o4; have hsz1 := hb1.size) | (refine step_app rfl (.tmp 44) (.tmp 47) 78 rfl w6 2 i0 Try.underlying78 HI.out HZ0.out HZ1.out HZ2.out (.slice (some ⟨w6.heap.size + 1, 0, none⟩) 0 0) 0 [] rfl (own_empty (p := w6.heap.size + 1) ((Blk.made_at _ _ _ _ (by simp)).drew 1) (by omega)) _ _ rfl (HS1.out _ (by omega) _ (by (repeat (first | exact Below.refl _ _ | assumption | refine balloc ?_ _ | refine below_drewN ?_ _ | refine bstep (by assumption) ?_ | refine bstep (Past.prop _) ?_ | refine Below.setCell ?_ (by first | exact Nat.le_refl _ | (simp; done) | (simp; omega)) _)))) (by (try simp only [List.length_take]); omega) (by (repeat (first | exact Below.refl _ _ | assumption | refine balloc ?_ _ | refine below_drewN ?_ _ | refine bstep (by assumption) ?_ | refine bstep (Past.prop _) ?_ | refine Below.setCell ?_ (by first | exact Nat.le_refl _ | (simp; done) | (simp; omega)) _))) ?_; intro v1 w1 own1 hb1 keep1; have hcell1 := (hb1.cell (p := ⟨b, off + k, none⟩) o3).trans o4; have hsz1 := hb1.size) | (refine step_app rfl (.tmp 48) (.tmp 53) 78 rfl w6 2 i0 Try.underlying78 HI.out HZ0.out HZ1.out HZ2.out _ _ _ rfl (own1.alloc _) _ [x] rfl (src_one (Blk.made _ _ _)) (by (try simp only [List.length_cons, List.length_nil, List.length_take]); omega) (by (repeat (first | exact Below.refl _ _ | assumption | refine balloc ?_ _ | refine below_drewN ?_ _ | refine bstep (by assumption) ?_ | refine bstep (Past.prop _) ?_ | refine Below.setCell ?_ (by first | exact Nat.le_refl _ | (simp; done) | (simp; omega)) _))) ?_; intro v2 w2 own2 hb2 keep2) | (refine step_app rfl (.tmp 48) (.tmp 53) 78 rfl w6 2 i0 Try.underlying78 HI.out HZ0.out HZ1.out HZ2.out _ _ _ rfl (own1) _ [x] rfl (src_one (keep1 w6.heap.size _ _ (((Blk.made _ _ _).alloc _).drew 1) (by simp [Value.ownBlock]))) (by (try simp only [List.length_cons, List.length_nil, List.length_take]); omega) (by (repeat (first | exact Below.refl _ _ | assumption | refine balloc ?_ _ | refine below_drewN ?_ _ | refine bstep (by assumption) ?_ | refine bstep (Past.prop _) ?_ | refine Below.setCell ?_ (by first | exact Nat.le_refl _ | (simp; done) | (simp; omega)) _))) ?_; intro v2 w2 own2 hb2 keep2) | (refine step_app rfl (.tmp 48) (.tmp 53) 78 rfl w6 2 i0 Try.underlying78 HI.out HZ0.out HZ1.out HZ2.out _ _ _ rfl (own1) _ [x] rfl (src_one (keep1 (w6.heap.size + 1) _ _ ((Blk.made_at _ _ _ _ (by simp)).drew 1) (by simp [Value.ownBlock]))) (by (try simp only [List.length_cons, List.length_nil, List.length_take]); omega) (by (repeat (first | exact Below.refl _ _ | assumption | refine balloc ?_ _ | refine below_drewN ?_ _ | refine bstep (by assumption) ?_ | refine bstep (Past.prop _) ?_ | refine Below.setCell ?_ (by first | exact Nat.le_refl _ | (simp; done) | (simp; omega)) _))) ?_; intro v2 w2 own2 hb2 keep2) | (refine step_app rfl (.tmp 54) (.tmp 57) 78 rfl w6 2 i0 Try.underlying78 HI.out HZ0.out HZ1.out HZ2.out _ _ _ rfl own2 _ _ rfl (HS3.out _ _ _ (by omega) (by omega) _ (by (repeat (first | exact Below.refl _ _ | assumption | refine balloc ?_ _ | refine below_drewN ?_ _ | refine bstep (by assumption) ?_ | refine bstep (Past.prop _) ?_ | refine Below.setCell ?_ (by first | exact Nat.le_refl _ | (simp; done) | (simp; omega)) _)))) (by (try simp only [List.length_cons, List.length_nil, List.length_take, List.length_drop]); omega) (by (repeat (first | exact Below.refl _ _ | assumption | refine balloc ?_ _ | refine below_drewN ?_ _ | refine bstep (by assumption) ?_ | refine bstep (Past.prop _) ?_ | refine Below.setCell ?_ (by first | exact Nat.le_refl _ | (simp; done) | (simp; omega)) _))) ?_; intro v3 w3 own3 hb3 keep3))
              all_goals
                go_wp2
                have hown3 := own_fin own3 HI3.out
                rw [← HT.out] at hown3
                have HO3 := hidE (own_low hown3 o2'.size); have HB3 := hidE (o2'.trans (hb3.mono o2'.size))
                clear hown3
                go_roundg (l.length - (k + 1))
                case measure => omega
                case rel => exact ⟨k + 1, v3, rfl, by omega, Nat.le_refl _, by go_num, HB3.out, HO3.out⟩
    · have hk' : k = l.length := by omega
      subst hk'
      have ho := HO.out
      rw [List.take_length] at ho
      have HO2 := hidE ho; clear ho HO
      go_wp2
      go_ret
      exact ⟨_, rfl, HO2.out, HB.out⟩
end Go.Proofs.Ytlhokgcamcaonaa

namespace Go.Proofs.Ytlhokgcamcaonaa
open Go.ChangeShapes Go.WideShapes Go.ChangeAt Go.RowKit
attribute [local irreducible] Go.Calls
theorem buildL_stepU {g : Int → Int × Int} {ts : List Int} {k : Nat} (h : k < ts.length) : buildL g (ts.take (k + 1)) = withL (buildL g (ts.take k)) (ts.getD k 0) (g (ts.getD k 0)) := by
  rw [List.take_succ_eq_append_getElem h, buildL_snoc, getD_get _ _ _ h]
theorem buildL_lenU (g : Int → Int × Int) (ts : List Int) : ∀ k, k ≤ ts.length → (buildL g (ts.take k)).length ≤ k
  | 0, _ => by rw [List.take_zero]; exact Nat.le_refl _
  | k + 1, h => by
    have := buildL_lenU g ts k (by omega)
    rw [buildL_stepU (by omega)]
    unfold withL
    split
    · omega
    · rw [List.length_append]; simp; omega
theorem wrong_at {fr to' : Int} {l : List Prt} {W : List Pc} {ub : Bool} :
    wrongS fr to' l ub W = if wrongS fr to' l (decide ((0 : Int) ≤ 0 ∧ (0 : Int) < (l.length : Int))) W = 81 then 81 else if ub = false then 2 else wrongS fr to' l (decide ((0 : Int) ≤ 0 ∧ (0 : Int) < (l.length : Int))) W := by
  by_cases hc : (chkS fr to' l).2 = 0
  · have hl := (chk_ok hc).2.2.2.1
    rw [decide_eq_true (show (0 : Int) ≤ 0 ∧ (0 : Int) < (l.length : Int) from ⟨by omega, by omega⟩)]
    unfold wrongS
    cases ub <;> cases pcsB l (-1) W <;> cases farB W <;> simp [hc]
  · unfold wrongS; simp [hc]
theorem raw_take {l : List Prt} {W : List Pc} {k : Nat} {q : Pc} (h : W[k]? = some q) : cellsI (rawTs l (W.take (k + 1))) = cellsI (rawTs l (W.take k)) ++ [.int .i64 q.2, .int .i64 (q.2 + dP l q)] := by
  rw [take_snoc h]; unfold rawTs; rw [List.flatMap_append, cellsI_app]; simp [cellsI]
set_option maxHeartbeats 8000000 in
set_option maxRecDepth 100000 in
theorem ruse_bad (fr to' m c : Int) (l : List Prt) (W : List Pc) (a wa : Option Addr) (cap wcap : Nat) (w : World) (hl : l.length ≤ 9223372036854775807) (hWl : W.length ≤ 100000) (hA : ArgP w a l) (hW : ArgVs w wa W) (hf : -9223372036854775808 ≤ fr ∧ fr ≤ 9223372036854775807) (ht : -9223372036854775808 ≤ to' ∧ to' ≤ 9223372036854775807) (er : Int) (her : wrongS fr to' l (unitB m c) W = er) (h0 : er ≠ 0) : Calls Try.prog 12 #[def8 fr to' a l.length cap, .slice wa W.length wcap, V m c] w (OfIs w [] er) := by
  have HCK := hidE (fun (w' : World) (h : Below w.heap.size w w') => rcheck_c fr to' l W a wa cap wcap 0 w' hl (by omega) (hA.past h) (hW.past h) hf ht)
  obtain ⟨e0, he0⟩ : ∃ e0, wrongS fr to' l (decide ((0 : Int) ≤ 0 ∧ (0 : Int) < (l.length : Int))) W = e0 := ⟨_, rfl⟩
  have HER := hidE (her.symm.trans (wrong_at (ub := unitB m c)))
  rw [he0] at HCK HER
  clear he0 her
  have HB1 := hidE (show Below w.heap.size w ((w.alloc (.cells #[.int .i64 fr, .int .i64 to', .slice a l.length cap] 24)).alloc (.cells #[.int .i64 m, .int .i64 c] 29)) from by (repeat (first | exact Below.refl _ _ | assumption | refine balloc ?_ _ | refine below_drewN ?_ _ | refine bstep (by assumption) ?_ | refine bstep (Past.prop _) ?_ | refine Below.setCell ?_ (by first | exact Nat.le_refl _ | (simp; done) | (simp; omega)) _)))
  by_cases h81 : e0 = 81
  · subst h81
    have hr := HER.out
    rw [if_pos rfl] at hr
    subst hr
    clear HER
    go_enter Try.func12, Try.ntmps12
    go_wp2_with fail
    ((with_reducible refine (HCK.out _ (by (repeat (first | exact Below.refl _ _ | assumption | refine balloc ?_ _ | refine below_drewN ?_ _ | refine bstep (by assumption) ?_ | refine bstep (Past.prop _) ?_ | refine Below.setCell ?_ (by first | exact Nat.le_refl _ | (simp; done) | (simp; omega)) _)))).mono ?_); rintro e w2 ⟨rfl, hb2⟩)
    have HB2 := hidE (HB1.out.trans (hb2.mono HB1.out.size))
    clear hb2
    go_wp2
    exact bodyPost_ret (v := .tuple #[.slice none 0 0, .int .i64 81]) (by simp [results, Try.results12, go_sem]) rfl ⟨_, rfl, sliS_nil _, HB2.out⟩
  have q81 : (e0 == 81) = false := beq_eq_false_iff_ne.2 h81
  have hr := HER.out
  rw [if_neg h81] at hr
  have HR := hidE hr
  clear hr HER
  obtain ⟨w1, hw1⟩ : ∃ w1, w1 = (w.alloc (.cells #[.int .i64 fr, .int .i64 to', .slice a l.length cap] 24)).alloc (.cells #[.int .i64 m, .int .i64 c] 29) := ⟨_, rfl⟩
  have hV : Blk w1 (w.heap.size + 1) #[.int .i64 m, .int .i64 c] 29 := by rw [hw1]; exact Blk.made_at _ _ _ _ (by simp)
  have HV := hidE hV; have HW1 := hidE hw1
  clear hV
  rw [← hw1] at HB1
  clear hw1
  by_cases c1 : m < 1
  · skip
    have t1 : decide (m < 1) = true := decide_eq_true c1
    have hub : unitB m c = false := by unfold unitB; simp; omega
    have hr := HR.out
    rw [hub] at hr
    rw [if_pos rfl] at hr
    subst hr
    clear HR hub c1
    go_enter Try.func12, Try.ntmps12
    go_wp2_with fail
    rw [← HW1.out]
    ((with_reducible refine (HCK.out _ HB1.out).mono ?_); rintro e w2 ⟨rfl, hb2⟩)
    have hv2 := HV.out.past hb2
    have v0 := hv2.cell 0; have v1 := hv2.cell 1; have vz := hv2.lt
    simp at v0 v1
    have HB2 := hidE (HB1.out.trans (hb2.mono HB1.out.size))
    clear hb2 hv2
    go_wp2
    exact bodyPost_ret (v := .tuple #[.slice none 0 0, .int .i64 2]) (by simp [results, Try.results12, go_sem]) rfl ⟨_, rfl, sliS_nil _, HB2.out⟩
  have t1 : decide (m < 1) = false := decide_eq_false c1
  by_cases c2 : c < 1
  · skip
    have t2 : decide (c < 1) = true := decide_eq_true c2
    have hub : unitB m c = false := by unfold unitB; simp; omega
    have hr := HR.out
    rw [hub] at hr
    rw [if_pos rfl] at hr
    subst hr
    clear HR hub c1 c2
    go_enter Try.func12, Try.ntmps12
    go_wp2_with fail
    rw [← HW1.out]
    ((with_reducible refine (HCK.out _ HB1.out).mono ?_); rintro e w2 ⟨rfl, hb2⟩)
    have hv2 := HV.out.past hb2
    have v0 := hv2.cell 0; have v1 := hv2.cell 1; have vz := hv2.lt
    simp at v0 v1
    have HB2 := hidE (HB1.out.trans (hb2.mono HB1.out.size))
    clear hb2 hv2
    go_wp2
    exact bodyPost_ret (v := .tuple #[.slice none 0 0, .int .i64 2]) (by simp [results, Try.results12, go_sem]) rfl ⟨_, rfl, sliS_nil _, HB2.out⟩
  have t2 : decide (c < 1) = false := decide_eq_false c2
  by_cases c3 : 1073741824 < m
  · skip
    have t3 : decide (1073741824 < m) = true := decide_eq_true c3
    have hub : unitB m c = false := by unfold unitB; simp; omega
    have hr := HR.out
    rw [hub] at hr
    rw [if_pos rfl] at hr
    subst hr
    clear HR hub c1 c2 c3
    go_enter Try.func12, Try.ntmps12
    go_wp2_with fail
    rw [← HW1.out]
    ((with_reducible refine (HCK.out _ HB1.out).mono ?_); rintro e w2 ⟨rfl, hb2⟩)
    have hv2 := HV.out.past hb2
    have v0 := hv2.cell 0; have v1 := hv2.cell 1; have vz := hv2.lt
    simp at v0 v1
    have HB2 := hidE (HB1.out.trans (hb2.mono HB1.out.size))
    clear hb2 hv2
    go_wp2
    exact bodyPost_ret (v := .tuple #[.slice none 0 0, .int .i64 2]) (by simp [results, Try.results12, go_sem]) rfl ⟨_, rfl, sliS_nil _, HB2.out⟩
  have t3 : decide (1073741824 < m) = false := decide_eq_false c3
  by_cases c4 : 1073741824 < c
  · skip
    have t4 : decide (1073741824 < c) = true := decide_eq_true c4
    have hub : unitB m c = false := by unfold unitB; simp; omega
    have hr := HR.out
    rw [hub] at hr
    rw [if_pos rfl] at hr
    subst hr
    clear HR hub c1 c2 c3 c4
    go_enter Try.func12, Try.ntmps12
    go_wp2_with fail
    rw [← HW1.out]
    ((with_reducible refine (HCK.out _ HB1.out).mono ?_); rintro e w2 ⟨rfl, hb2⟩)
    have hv2 := HV.out.past hb2
    have v0 := hv2.cell 0; have v1 := hv2.cell 1; have vz := hv2.lt
    simp at v0 v1
    have HB2 := hidE (HB1.out.trans (hb2.mono HB1.out.size))
    clear hb2 hv2
    go_wp2
    exact bodyPost_ret (v := .tuple #[.slice none 0 0, .int .i64 2]) (by simp [results, Try.results12, go_sem]) rfl ⟨_, rfl, sliS_nil _, HB2.out⟩
  have t4 : decide (1073741824 < c) = false := decide_eq_false c4
  have hub : unitB m c = true := by unfold unitB; simp; omega
  have hr := HR.out
  rw [hub] at hr
  rw [if_neg (by decide)] at hr
  subst hr
  have r0 : (er != 0) = true := bne_iff_ne.2 h0
  clear HR hub c1 c2 c3 c4
  go_enter Try.func12, Try.ntmps12
  go_wp2_with fail
  rw [← HW1.out]
  ((with_reducible refine (HCK.out _ HB1.out).mono ?_); rintro e w2 ⟨rfl, hb2⟩)
  have hv2 := HV.out.past hb2
  have v0 := hv2.cell 0; have v1 := hv2.cell 1; have vz := hv2.lt
  simp at v0 v1
  have HB2 := hidE (HB1.out.trans (hb2.mono HB1.out.size))
  clear hb2 hv2
  go_wp2
  exact bodyPost_ret (v := .tuple #[.slice none 0 0, .int .i64 er]) (by simp [results, Try.results12, go_sem]) rfl ⟨_, rfl, sliS_nil _, HB2.out⟩
set_option maxHeartbeats 8000000 in
set_option maxRecDepth 100000 in
theorem ruse_ok (fr to' m c : Int) (l : List Prt) (W : List Pc) (a wa : Option Addr) (cap wcap : Nat) (w : World) (hl : l.length ≤ 9223372036854775807) (hWl : W.length ≤ 100000) (hA : ArgP w a l) (hW : ArgVs w wa W) (hf : -9223372036854775808 ≤ fr ∧ fr ≤ 9223372036854775807) (ht : -9223372036854775808 ≤ to' ∧ to' ≤ 9223372036854775807) (her : wrongS fr to' l (unitB m c) W = 0) : Calls Try.prog 12 #[def8 fr to' a l.length cap, .slice wa W.length wcap, V m c] w (OfIs w (useL l m c W) 0) := by
  have HCK := hidE (fun (w' : World) (h : Below w.heap.size w w') => rcheck_c fr to' l W a wa cap wcap 0 w' hl (by omega) (hA.past h) (hW.past h) hf ht)
  obtain ⟨e0, he0⟩ : ∃ e0, wrongS fr to' l (decide ((0 : Int) ≤ 0 ∧ (0 : Int) < (l.length : Int))) W = e0 := ⟨_, rfl⟩
  have hUK := useOk_of her
  have hub : unitB m c = true := (wrong_zero her).2.1
  have hwa := wrong_at (fr := fr) (to' := to') (l := l) (W := W) (ub := unitB m c)
  rw [her, he0, hub] at hwa
  have h00 : e0 = 0 := by
    by_cases h : e0 = 81
    · rw [if_pos h] at hwa; cases hwa
    · rw [if_neg h] at hwa; simpa using hwa.symm
  have hl64 := (chk_ok (wrong_zero her).1).2.2.2.2
  rw [he0] at HCK
  subst h00
  have hm := hUK.mem; have hcc := hUK.cor
  have hWl := hUK.len
  have u1 : decide (m < 1) = false := decide_eq_false (by omega)
  have u2 : decide (c < 1) = false := decide_eq_false (by omega)
  have u3 : decide (1073741824 < m) = false := decide_eq_false (by omega)
  have u4 : decide (1073741824 < c) = false := decide_eq_false (by omega)
  have HU := hidE hUK; have HA := hidE hA; have HW := hidE hW; have HDO := hidE hUK.parts
  clear he0 hwa her hub hUK hA hW
  obtain ⟨i0, hi, hz0, hz1, hz2⟩ := info_parts Try.infoI64
  have HI := hidE hi; have HZ0 := hidE hz0; have HZ1 := hidE hz1; have HZ2 := hidE hz2
  clear hi hz0 hz1 hz2
  go_enter Try.func12, Try.ntmps12
  go_wp2_with fail
  obtain ⟨w1, hw1⟩ : ∃ w1, w1 = (w.alloc (.cells #[.int .i64 fr, .int .i64 to', .slice a l.length cap] 24)).alloc (.cells #[.int .i64 m, .int .i64 c] 29) := ⟨_, rfl⟩
  obtain ⟨db, hdb⟩ : ∃ db, db = w.heap.size := ⟨_, rfl⟩
  obtain ⟨vb, hvb⟩ : ∃ vb, vb = w.heap.size + 1 := ⟨_, rfl⟩
  have HB1 := hidE (show Below w.heap.size w w1 from by rw [hw1]; (repeat (first | exact Below.refl _ _ | assumption | refine balloc ?_ _ | refine below_drewN ?_ _ | refine bstep (by assumption) ?_ | refine bstep (Past.prop _) ?_ | refine Below.setCell ?_ (by first | exact Nat.le_refl _ | (simp; done) | (simp; omega)) _)))
  have hD : Blk w1 db #[.int .i64 fr, .int .i64 to', .slice a l.length cap] 24 := by rw [hw1, hdb]; exact (Blk.made _ _ _).alloc _
  have hV : Blk w1 vb #[.int .i64 m, .int .i64 c] 29 := by rw [hw1]; exact Blk.made_at _ _ _ _ (by rw [hvb]; simp)
  rw [← hw1, ← hvb, ← hdb]
  clear hw1 hvb hdb
  ((with_reducible refine (HCK.out _ HB1.out).mono ?_); rintro e w2 ⟨rfl, hb2⟩)
  have hB2 := HB1.out.trans (hb2.mono HB1.out.size)
  have hd2 := hD.past hb2
  have hv2 := hV.past hb2
  have v0 := hv2.cell 0; have v1 := hv2.cell 1; have vz := hv2.lt
  simp at v0 v1
  have HB2 := hidE hB2; have HD2 := hidE hd2; have HV2 := hidE hv2
  clear hb2 hB2 hd2 hv2 hD hV HCK HB1
  go_wp2_with fail
  go_loopg [9, 10] W.length (fun gh v9 v10 wr => ∃ (k : Nat) (v : Value), v = v9 ∧ v10 = .int .i64 k ∧ k ≤ W.length ∧ W.length - k ≤ gh ∧ Below w2.heap.size w2 wr ∧ wr.ownsRow w2.heap.size 2 1 v (k * 2) (cellsI (rawTs l (W.take k))))
  case atStart => exact ⟨0, .slice none 0 0, rfl, rfl, Nat.zero_le _, Nat.le_refl _, Below.refl _ _, ⟨rfl, .inl ⟨rfl, rfl⟩⟩⟩
  case round =>
    obtain ⟨k, v, rfl, rfl, hk, hgh, hbw, ho⟩ := hrel
    have HGH := hidE hgh; have HBW := hidE hbw; have HO := hidE ho
    have HB3 := hidE (HB2.out.trans (hbw.mono HB2.out.size))
    clear hgh ho v0 v1 vz
    by_cases hlt : k < W.length
    · have q1 : decide ((k : Int) < (W.length : Int)) = true := decide_eq_true (by omega)
      have q2 : decide (k < W.length) = true := decide_eq_true hlt
      obtain ⟨b, off, rfl, hbz, hc⟩ := HW.out (by omega)
      obtain ⟨m0, m1⟩ := hc k hlt
      obtain ⟨x, hx⟩ : ∃ x, W[k]? = some x := ⟨W[k], by rw [List.getElem?_eq_getElem hlt]⟩
      have hgd : W.getD k (0, 0) = x := by rw [List.getD_eq_getElem?_getD, hx]; rfl
      rw [hgd] at m0 m1
      have HST := hidE (raw_take (l := l) hx)
      have hpc := HU.out.times x (List.mem_of_getElem? hx)
      have hat := HU.out.atoms x (List.mem_of_getElem? hx)
      obtain ⟨j, at'⟩ := x
      have k0 := (HB3.out.cell (p := ⟨b, off + k * 2, none⟩) hbz).trans m0
      have k1 := (HB3.out.cell (p := ⟨b, off + k * 2 + 1, none⟩) hbz).trans m1
      have bz := Nat.lt_of_lt_of_le hbz HB3.out.size
      simp only at k0 k1 HST
      have pc1 : -1099511627776 ≤ at' := hpc.1
      have pc2 : at' ≤ 1099511627776 := hpc.2
      have a1 : 0 ≤ j := hat.1
      have a2 : j < (l.length : Int) := hat.2.1
      obtain ⟨j, rfl⟩ : ∃ i : Nat, j = (i : Int) := ⟨j.toNat, by omega⟩
      have hjl : j < l.length := by omega
      have HDP := hidE (show dP l ((j : Int), at') = (l.getD j pr0).d by unfold dP; rw [Int.toNat_natCast])
      rw [HDP.out] at HST
      obtain ⟨ba, offa, rfl, hba, hca⟩ := HA.out (by omega)
      have p3 := (HB3.out.cell (p := ⟨ba, offa + j * 5 + 3, none⟩) hba).trans (hca.get hjl).2.2.2.1
      have az := Nat.lt_of_lt_of_le hba HB3.out.size
      obtain ⟨dd1, dd2, _⟩ := HDO.out j hjl
      obtain ⟨d, hd⟩ : ∃ d, (l.getD j pr0).d = d := ⟨_, rfl⟩
      rw [hd] at p3 dd1 dd2 HST
      have z1 : IntKind.i64.wrap (at' + d) = at' + d := IntWalk.i64_in _ (by omega)
      have r3 : decide ((l.length : Int) ≤ (j : Int)) = false := decide_eq_false (by omega)
      have r4 : decide (l.length ≤ j) = false := decide_eq_false (by omega)
      have r6 : decide (W.length ≤ k) = false := decide_eq_false (by omega)
      have hd3 := HD2.out.past hbw
      have e2 := hd3.cell 2; have dz := hd3.lt
      simp at e2
      generalize cellsI (rawTs l (W.take k)) = cs at *
      obtain ⟨wo, rfl⟩ : ∃ wo : World, wo = wr := ⟨_, rfl⟩
      clear m0 m1 hc hx hgd hbw hpc hat hca hd HDP a1 hd3
      go_upto_region 12 with fail
      refine wp_region_J 22 [0] (nthR [detR v, detR (.slice (some ⟨b, off, none⟩) W.length wcap), detR (.int .i64 (k : Int)), detR (.pointer (some ⟨b, off + k * 2, none⟩)), detR (.pointer (some ⟨b, off + k * 2 + 1, none⟩)), detR (.int .i64 at'), detR (.slice (some ⟨b, off, none⟩) W.length wcap), detR (.int .i64 (k : Int)), detR (.pointer (some ⟨b, off + k * 2, none⟩)), detR (.pointer (some ⟨b, off + k * 2 + 1, none⟩)), detR (.int .i64 at'), detR (.pointer (some ⟨db, 2, none⟩)), detR (.slice (some ⟨ba, offa, none⟩) l.length cap), detR (.slice (some ⟨b, off, none⟩) W.length wcap), detR (.int .i64 (k : Int)), detR (.pointer (some ⟨b, off + k * 2, none⟩)), detR (.pointer (some ⟨b, off + k * 2, none⟩)), detR (.int .i64 (j : Int)), detR (.pointer (some ⟨ba, offa + j * 5, none⟩)), detR (.pointer (some ⟨ba, offa + j * 5 + 3, none⟩)), detR (.int .i64 d), detR (.int .i64 (at' + d))]) (fun _ => false) (by kernel_rfl) (by simp) (by kernel_rfl) (stab_nth (by simp [stab_det])) ?_ ?_ ?_
      · intro i o hi ho
        match i, hi with
        | 0, _ =>
          obtain rfl := Option.some.inj ho
          intro u x' hd
          have hc := Past.cell x'
          simp [go_sem, gives, frm, Act.put, nthR, detR, Region.wanted, Below.refl]
        | 1, _ =>
          obtain rfl := Option.some.inj ho
          intro u x' hd
          have hc := Past.cell x'
          simp [go_sem, gives, frm, Act.put, nthR, detR, Region.wanted, Below.refl]
        | 2, _ =>
          obtain rfl := Option.some.inj ho
          intro u x' hd
          have hc := Past.cell x'
          simp [go_sem, gives, frm, Act.put, nthR, detR, Region.wanted, Below.refl]
        | 3, _ =>
          obtain rfl := Option.some.inj ho
          intro u x' hd
          have hc := Past.cell x'
          have d1 := hd 1 (by decide) (by kernel_rfl)
          have d2 := hd 2 (by decide) (by kernel_rfl)
          simp only [nthR, detR, List.getD_cons_zero, List.getD_cons_succ] at d1 d2
          simp [go_sem, gives, frm, Act.put, nthR, detR, Region.wanted, Below.refl, d1, d2, hlt]
        | 4, _ =>
          obtain rfl := Option.some.inj ho
          intro u x' hd
          have hc := Past.cell x'
          have d3 := hd 3 (by decide) (by kernel_rfl)
          simp only [nthR, detR, List.getD_cons_zero, List.getD_cons_succ] at d3
          simp [go_sem, gives, frm, Act.put, nthR, detR, Region.wanted, Below.refl, d3]
        | 5, _ =>
          obtain rfl := Option.some.inj ho
          intro u x' hd
          have hc := Past.cell x'
          have d4 := hd 4 (by decide) (by kernel_rfl)
          simp only [nthR, detR, List.getD_cons_zero, List.getD_cons_succ] at d4
          simp [go_sem, gives, frm, Act.put, nthR, detR, Region.wanted, Below.refl, hc, d4, k1, bz]
        | 6, _ =>
          obtain rfl := Option.some.inj ho
          intro u x' hd
          have hc := Past.cell x'
          simp [go_sem, gives, frm, Act.put, nthR, detR, Region.wanted, Below.refl]
        | 7, _ =>
          obtain rfl := Option.some.inj ho
          intro u x' hd
          have hc := Past.cell x'
          simp [go_sem, gives, frm, Act.put, nthR, detR, Region.wanted, Below.refl]
        | 8, _ =>
          obtain rfl := Option.some.inj ho
          intro u x' hd
          have hc := Past.cell x'
          have d6 := hd 6 (by decide) (by kernel_rfl)
          have d7 := hd 7 (by decide) (by kernel_rfl)
          simp only [nthR, detR, List.getD_cons_zero, List.getD_cons_succ] at d6 d7
          simp [go_sem, gives, frm, Act.put, nthR, detR, Region.wanted, Below.refl, d6, d7, hlt]
        | 9, _ =>
          obtain rfl := Option.some.inj ho
          intro u x' hd
          have hc := Past.cell x'
          have d8 := hd 8 (by decide) (by kernel_rfl)
          simp only [nthR, detR, List.getD_cons_zero, List.getD_cons_succ] at d8
          simp [go_sem, gives, frm, Act.put, nthR, detR, Region.wanted, Below.refl, d8]
        | 10, _ =>
          obtain rfl := Option.some.inj ho
          intro u x' hd
          have hc := Past.cell x'
          have d9 := hd 9 (by decide) (by kernel_rfl)
          simp only [nthR, detR, List.getD_cons_zero, List.getD_cons_succ] at d9
          simp [go_sem, gives, frm, Act.put, nthR, detR, Region.wanted, Below.refl, hc, d9, k1, bz]
        | 11, _ =>
          obtain rfl := Option.some.inj ho
          intro u x' hd
          have hc := Past.cell x'
          simp [go_sem, gives, frm, Act.put, nthR, detR, Region.wanted, Below.refl]
        | 12, _ =>
          obtain rfl := Option.some.inj ho
          intro u x' hd
          have hc := Past.cell x'
          have d11 := hd 11 (by decide) (by kernel_rfl)
          simp only [nthR, detR, List.getD_cons_zero, List.getD_cons_succ] at d11
          simp [go_sem, gives, frm, Act.put, nthR, detR, Region.wanted, Below.refl, hc, d11, e2, dz]
        | 13, _ =>
          obtain rfl := Option.some.inj ho
          intro u x' hd
          have hc := Past.cell x'
          simp [go_sem, gives, frm, Act.put, nthR, detR, Region.wanted, Below.refl]
        | 14, _ =>
          obtain rfl := Option.some.inj ho
          intro u x' hd
          have hc := Past.cell x'
          simp [go_sem, gives, frm, Act.put, nthR, detR, Region.wanted, Below.refl]
        | 15, _ =>
          obtain rfl := Option.some.inj ho
          intro u x' hd
          have hc := Past.cell x'
          have d13 := hd 13 (by decide) (by kernel_rfl)
          have d14 := hd 14 (by decide) (by kernel_rfl)
          simp only [nthR, detR, List.getD_cons_zero, List.getD_cons_succ] at d13 d14
          simp [go_sem, gives, frm, Act.put, nthR, detR, Region.wanted, Below.refl, d13, d14, hlt]
        | 16, _ =>
          obtain rfl := Option.some.inj ho
          intro u x' hd
          have hc := Past.cell x'
          have d15 := hd 15 (by decide) (by kernel_rfl)
          simp only [nthR, detR, List.getD_cons_zero, List.getD_cons_succ] at d15
          simp [go_sem, gives, frm, Act.put, nthR, detR, Region.wanted, Below.refl, d15]
        | 17, _ =>
          obtain rfl := Option.some.inj ho
          intro u x' hd
          have hc := Past.cell x'
          have d16 := hd 16 (by decide) (by kernel_rfl)
          simp only [nthR, detR, List.getD_cons_zero, List.getD_cons_succ] at d16
          simp [go_sem, gives, frm, Act.put, nthR, detR, Region.wanted, Below.refl, hc, d16, k0, bz]
        | 18, _ =>
          obtain rfl := Option.some.inj ho
          intro u x' hd
          have hc := Past.cell x'
          have d12 := hd 12 (by decide) (by kernel_rfl)
          have d17 := hd 17 (by decide) (by kernel_rfl)
          simp only [nthR, detR, List.getD_cons_zero, List.getD_cons_succ] at d12 d17
          simp [go_sem, gives, frm, Act.put, nthR, detR, Region.wanted, Below.refl, d12, d17, hjl]
        | 19, _ =>
          obtain rfl := Option.some.inj ho
          intro u x' hd
          have hc := Past.cell x'
          have d18 := hd 18 (by decide) (by kernel_rfl)
          simp only [nthR, detR, List.getD_cons_zero, List.getD_cons_succ] at d18
          simp [go_sem, gives, frm, Act.put, nthR, detR, Region.wanted, Below.refl, d18]
        | 20, _ =>
          obtain rfl := Option.some.inj ho
          intro u x' hd
          have hc := Past.cell x'
          have d19 := hd 19 (by decide) (by kernel_rfl)
          simp only [nthR, detR, List.getD_cons_zero, List.getD_cons_succ] at d19
          simp [go_sem, gives, frm, Act.put, nthR, detR, Region.wanted, Below.refl, hc, d19, p3, az]
        | 21, _ =>
          obtain rfl := Option.some.inj ho
          intro u x' hd
          have hc := Past.cell x'
          have d10 := hd 10 (by decide) (by kernel_rfl)
          have d20 := hd 20 (by decide) (by kernel_rfl)
          simp only [nthR, detR, List.getD_cons_zero, List.getD_cons_succ] at d10 d20
          simp [go_sem, gives, frm, Act.put, nthR, detR, Region.wanted, Below.refl, d10, d20, z1]
        | i + 22, h => exact absurd h (by omega)
      · intro i o hx ho
        simp only [List.mem_cons, List.not_mem_nil, or_false] at hx
        rcases hx with rfl
        · obtain rfl := Option.some.inj ho
          refine ⟨rfl, fun _ _ _ _ h => h, fun u x' hd => ?_⟩
          refine ⟨rfl, v, rfl, fun w' => ?_⟩
          simp [go_sem, frm, Act.put]
      · intro u x' hu hne
        have d0 : u 0 = v := hu 0 (by decide)
        have d5 : u 5 = .int .i64 at' := hu 5 (by decide)
        have d21 : u 21 = .int .i64 (at' + d) := hu 21 (by decide)
        have HXX := hidE (x'.2)
        simp only [frm, List.take, Act.put, d0, d5, d21]
        clear hu hne d0 d5 d21 k0 k1 p3 e2 dz az bz
        generalize x'.1 = w5 at *
        have HB5 := hidE (HBW.out.trans (HXX.out.mono HBW.out.size))
        have HO5 := hidE (own_below HO.out HXX.out)
        have hsz := HB5.out.size
        go_wp2_with (at_builtin; refine wpList_append_own _ rfl (.tmp 47) (.tmp 69) 78 rfl w2.heap.size 2 i0 (.int .i64 0) 1 8 Try.underlying78 HI.out HZ0.out HZ1.out HZ2.out rfl (by decide) _ _ _ rfl (HO5.out.alloc _) ⟨_, 0, none⟩ 2 2 [.int .i64 at', .int .i64 (at' + d)] rfl rfl (new_cells_at _ #[.int .i64 at', .int .i64 (at' + d)] 2 _ (by simp)) (by intro x hx; simp at hx; rcases hx with rfl | rfl <;> rfl) (by unfold maxLen; omega) (by omega) (by simp; omega) ?_; intro v' w6 hown6 hgrow6 _)
        have hb6 : Below w2.heap.size w2 w6 := Below.grown (HB5.out.alloc hsz (.cells #[.int .i64 at', .int .i64 (at' + d)] 2)) hgrow6 (by simp; omega) (fun k hk => own_block HO5.out hk)
        rw [← HST.out] at hown6
        have HB6 := hidE hb6; have HO6 := hidE (show w6.ownsRow w2.heap.size 2 1 v' ((k + 1) * 2) _ by rw [show (k + 1) * 2 = k * 2 + 2 by omega]; exact hown6)
        clear hb6 hown6 hgrow6
        go_wp2
        go_roundg (W.length - (k + 1))
        case measure => have := HGH.out; omega
        case rel => exact ⟨k + 1, v', rfl, by go_num, by omega, Nat.le_refl _, HB6.out, HO6.out⟩
    · obtain rfl : k = W.length := by omega
      have q1 : decide ((W.length : Int) < (W.length : Int)) = false := decide_eq_false (by omega)
      have q2 : decide (W.length < W.length) = false := decide_eq_false (by omega)
      have ho := HO.out
      rw [List.take_length] at ho
      have ho' : wr.ownsRow w2.heap.size 2 1 v (rawTs l W).length (cellsI (rawTs l W)) := by rw [rawTs_len]; exact ho
      obtain ⟨a1, c1, rfl, _, _, hA1⟩ := sliI_own ho'
      have HRT := hidE (rtimes_c (rawTs l W) a1 c1 wr (by rw [rawTs_len]; omega) hA1)
      have hD3 := HD2.out.past hbw
      have hV3 := HV2.out.past hbw
      have HD3 := hidE hD3; have HV3 := hidE hV3
      clear ho ho' hA1 hbw HO hD3 hV3 HD2 HV2
      go_wp2_with fail
      ((with_reducible refine (HRT.out).mono ?_); rintro e w3 ⟨v3, rfl, ho3, hb3⟩)
      obtain ⟨a3, c3, rfl, _, _, hA3⟩ := sliI_own ho3
      have hts := timesL_len (rawTs l W)
      rw [rawTs_len] at hts
      have HB4 := hidE (HB3.out.trans (hb3.mono HB3.out.size)); have HA3 := hidE hA3
      have HD4 := hidE (HD3.out.past hb3); have HV4 := hidE (HV3.out.past hb3)
      have HUL := hidE (show useL l m c W = buildL (useV l m c W) (timesL (rawTs l W)) from rfl)
      clear ho3 hb3 hA3 HD3 HV3 HRT HB3
      generalize timesL (rawTs l W) = ts at *
      go_wp2_with fail
      go_loopg [11, 12, 13] ts.length (fun gh v11 v12 v13 wr => ∃ (n : Nat) (v z : Value), v = v11 ∧ v13 = z ∧ v12 = .int .i64 n ∧ n ≤ ts.length ∧ ts.length - n ≤ gh ∧ Below w3.heap.size w3 wr ∧ wr.ownsRow w3.heap.size 52 3 v (buildL (useV l m c W) (ts.take n)).length (cellsOfS (buildL (useV l m c W) (ts.take n))))
      case atStart => exact ⟨0, .slice none 0 0, undef, rfl, rfl, rfl, by omega, by omega, Below.refl _ _, ⟨rfl, .inl ⟨rfl, rfl⟩⟩⟩
      case round =>
        obtain ⟨n, v, z, rfl, rfl, rfl, hn, hg, hbr, ho⟩ := hrel
        have HBR := hidE hbr; have HO := hidE ho; have HG := hidE hg
        clear ho hg
        by_cases hlt : n < ts.length
        · obtain ⟨b, off, rfl, hb, hc⟩ := (HA3.out.past hbr) (by omega)
          have d0 := hc n hlt
          have q3 : decide ((n : Int) < (ts.length : Int)) = true := decide_eq_true (by omega)
          have q4 : decide (n < ts.length) = true := decide_eq_true hlt
          have r6 : decide (ts.length ≤ n) = false := decide_eq_false (by omega)
          have HST := hidE (buildL_stepU (g := useV l m c W) hlt)
          have hfl := buildL_lenU (useV l m c W) ts n hn
          have hd5 := HD4.out.past hbr; have hv5 := HV4.out.past hbr
          have hb5 := HB4.out.trans (hbr.mono HB4.out.size)
          have e0 := hd5.cell 0; have e1 := hd5.cell 1; have e2 := hd5.cell 2; have ez := hd5.lt
          simp at e0 e1 e2
          have v0 := hv5.cell 0; have v1 := hv5.cell 1; have vz := hv5.lt
          simp at v0 v1
          have hbd := HU.out.bd (ts.getD n 0)
          have HBO := hidE (fun (w' : World) (h : Below w.heap.size w w') => rboxes_c fr to' m c (ts.getD n 0) l W a wa cap wcap w' HU.out (by omega) (HA.out.past h) (HW.out.past h))
          have HB5 := hidE hb5
          have HVV := hidE (show useV l m c W (ts.getD n 0) = (boxN l W (ts.getD n 0) * m, boxN l W (ts.getD n 0) * c) from rfl)
          rw [HVV.out] at HST
          clear hc hd5 hv5 hb5 HVV
          generalize buildL (useV l m c W) (ts.take n) = f at *
          generalize boxN l W (ts.getD n 0) = bn at *
          generalize ts.getD n 0 = t at *
          have y1 : 0 ≤ bn * m := Int.mul_nonneg hbd.1 (by omega)
          have y2 : 0 ≤ bn * c := Int.mul_nonneg hbd.1 (by omega)
          have y3 : bn * m ≤ 262144 * 1073741824 := Int.mul_le_mul hbd.2 hm.2 (by omega) (by omega)
          have y4 : bn * c ≤ 262144 * 1073741824 := Int.mul_le_mul hbd.2 hcc.2 (by omega) (by omega)
          have s1 : IntKind.i64.wrap (bn * m) = bn * m := IntWalk.i64_in _ (by omega)
          have s2 : IntKind.i64.wrap (bn * c) = bn * c := IntWalk.i64_in _ (by omega)
          have s3 : wrap64 (bn * m) = bn * m := by unfold wrap64; omega
          have s4 : wrap64 (bn * c) = bn * c := by unfold wrap64; omega
          have HWI := hidE (fun (w : World) (hB : w3.heap.size ≤ w.heap.size) (ho : w.ownsRow w3.heap.size 52 3 v f.length (cellsOfS f)) => rwith_c f v w3.heap.size t (bn * m) (bn * c) w hB (by omega) ho)
          have hwr : w3.heap.size ≤ wr.heap.size := HBR.out.size
          obtain ⟨wo, rfl⟩ : ∃ wo : World, wo = wr := ⟨_, rfl⟩
          clear y1 y2 y3 y4 hbd
          go_upto_region 18 with fail
          go_cut [13] (fun s13 wx => s13 = .int .i64 bn ∧ Below wo.heap.size wo wx)
          case first =>
            refine wp_region_J 7 [] (nthR [detR (.agg #[.int .i64 fr, .int .i64 to', .slice a l.length cap]), detR (.slice wa W.length wcap), detR (.slice (some ⟨b, off, none⟩) ts.length c3), detR (.int .i64 (n : Int)), detR (.pointer (some ⟨b, off + n, none⟩)), detR (.int .i64 t), detR (.int .i64 bn)]) (fun _ => false) (by kernel_rfl) (by simp) (by kernel_rfl) (stab_nth (by simp [stab_det])) ?_ ?_ ?_
            · intro i o hi ho
              match i, hi with
              | 0, _ =>
                obtain rfl := Option.some.inj ho
                intro u x' hd
                have hc := Past.cell x'
                simp [go_sem, gives, frm, Act.put, nthR, detR, Region.wanted, Below.refl, hc, e0, e1, e2, ez]
              | 1, _ =>
                obtain rfl := Option.some.inj ho
                intro u x' hd
                have hc := Past.cell x'
                simp [go_sem, gives, frm, Act.put, nthR, detR, Region.wanted, Below.refl]
              | 2, _ =>
                obtain rfl := Option.some.inj ho
                intro u x' hd
                have hc := Past.cell x'
                simp [go_sem, gives, frm, Act.put, nthR, detR, Region.wanted, Below.refl]
              | 3, _ =>
                obtain rfl := Option.some.inj ho
                intro u x' hd
                have hc := Past.cell x'
                simp [go_sem, gives, frm, Act.put, nthR, detR, Region.wanted, Below.refl]
              | 4, _ =>
                obtain rfl := Option.some.inj ho
                intro u x' hd
                have hc := Past.cell x'
                have d2 := hd 2 (by decide) (by kernel_rfl)
                have d3 := hd 3 (by decide) (by kernel_rfl)
                simp only [nthR, detR, List.getD_cons_zero, List.getD_cons_succ] at d2 d3
                simp [go_sem, gives, frm, Act.put, nthR, detR, Region.wanted, Below.refl, d2, d3, hlt]
              | 5, _ =>
                obtain rfl := Option.some.inj ho
                intro u x' hd
                have hc := Past.cell x'
                have d4 := hd 4 (by decide) (by kernel_rfl)
                simp only [nthR, detR, List.getD_cons_zero, List.getD_cons_succ] at d4
                simp [go_sem, gives, frm, Act.put, nthR, detR, Region.wanted, Below.refl, hc, d4, d0, hb]
              | 6, _ =>
                obtain rfl := Option.some.inj ho
                intro u x' hd
                have hc := Past.cell x'
                have d0 := hd 0 (by decide) (by kernel_rfl)
                have d1 := hd 1 (by decide) (by kernel_rfl)
                have d5 := hd 5 (by decide) (by kernel_rfl)
                simp only [nthR, detR, List.getD_cons_zero, List.getD_cons_succ] at d0 d1 d5
                simp [go_sem, gives, frm, Act.put, nthR, detR, Region.wanted, d0, d1, d5]
                exact HBO.out _ (HB5.out.trans (x'.2.mono HB5.out.size))
              | i + 7, h => exact absurd h (by omega)
            · intro i o h; cases h
            · intro u x' hu hne
              have d6 : u 6 = .int .i64 bn := hu 6 (by decide)
              simp only [frm, List.take, Act.put, d6]
              have hx' := x'.2
              clear hu hne d6
              go_wp2
              go_meet
              case rel => exact ⟨rfl, hx'⟩
          obtain ⟨rfl, hbx⟩ := hcut
          have HBX := hidE hbx
          have d0' := (hbx.cell (p := ⟨b, off + n, none⟩) hb).trans d0
          have v0' := (hbx.cell (p := ⟨vb, 0, none⟩) vz).trans v0
          have v1' := (hbx.cell (p := ⟨vb, 1, none⟩) vz).trans v1
          have hb' := Nat.lt_of_lt_of_le hb hbx.size
          have vz' := Nat.lt_of_lt_of_le vz hbx.size
          obtain ⟨wp, hwp⟩ : ∃ wp : World, wp = wc := ⟨_, rfl⟩
          rw [← hwp] at HBX d0' v0' v1' hb' vz' ⊢
          clear hwp hbx d0 hb HBO e0 e1 e2 ez v0 v1 vz
          go_upto_region 19 with fail
          refine wp_region_J 14 [] (nthR [detR v, detR (.slice (some ⟨b, off, none⟩) ts.length c3), detR (.int .i64 (n : Int)), detR (.pointer (some ⟨b, off + n, none⟩)), detR (.int .i64 t), detR (.int .i64 bn), detR (.pointer (some ⟨vb, 0, none⟩)), detR (.int .i64 m), detR (.int .i64 (bn * m)), detR (.int .i64 bn), detR (.pointer (some ⟨vb, 1, none⟩)), detR (.int .i64 c), detR (.int .i64 (bn * c)), detR (V (bn * m) (bn * c))]) (fun _ => false) (by kernel_rfl) (by simp) (by kernel_rfl) (stab_nth (by simp [stab_det])) ?_ ?_ ?_
          · intro i o hi ho
            match i, hi with
            | 0, _ =>
              obtain rfl := Option.some.inj ho
              intro u x' hd
              have hc := Past.cell x'
              simp [go_sem, gives, frm, Act.put, nthR, detR, Region.wanted, Below.refl]
            | 1, _ =>
              obtain rfl := Option.some.inj ho
              intro u x' hd
              have hc := Past.cell x'
              simp [go_sem, gives, frm, Act.put, nthR, detR, Region.wanted, Below.refl]
            | 2, _ =>
              obtain rfl := Option.some.inj ho
              intro u x' hd
              have hc := Past.cell x'
              simp [go_sem, gives, frm, Act.put, nthR, detR, Region.wanted, Below.refl]
            | 3, _ =>
              obtain rfl := Option.some.inj ho
              intro u x' hd
              have hc := Past.cell x'
              have d1 := hd 1 (by decide) (by kernel_rfl)
              have d2 := hd 2 (by decide) (by kernel_rfl)
              simp only [nthR, detR, List.getD_cons_zero, List.getD_cons_succ] at d1 d2
              simp [go_sem, gives, frm, Act.put, nthR, detR, Region.wanted, Below.refl, d1, d2, hlt]
            | 4, _ =>
              obtain rfl := Option.some.inj ho
              intro u x' hd
              have hc := Past.cell x'
              have d3 := hd 3 (by decide) (by kernel_rfl)
              simp only [nthR, detR, List.getD_cons_zero, List.getD_cons_succ] at d3
              simp [go_sem, gives, frm, Act.put, nthR, detR, Region.wanted, Below.refl, hc, d3, d0', hb']
            | 5, _ =>
              obtain rfl := Option.some.inj ho
              intro u x' hd
              have hc := Past.cell x'
              simp [go_sem, gives, frm, Act.put, nthR, detR, Region.wanted, Below.refl]
            | 6, _ =>
              obtain rfl := Option.some.inj ho
              intro u x' hd
              have hc := Past.cell x'
              simp [go_sem, gives, frm, Act.put, nthR, detR, Region.wanted, Below.refl]
            | 7, _ =>
              obtain rfl := Option.some.inj ho
              intro u x' hd
              have hc := Past.cell x'
              have d6 := hd 6 (by decide) (by kernel_rfl)
              simp only [nthR, detR, List.getD_cons_zero, List.getD_cons_succ] at d6
              simp [go_sem, gives, frm, Act.put, nthR, detR, Region.wanted, Below.refl, hc, d6, v0', vz']
            | 8, _ =>
              obtain rfl := Option.some.inj ho
              intro u x' hd
              have hc := Past.cell x'
              have d5 := hd 5 (by decide) (by kernel_rfl)
              have d7 := hd 7 (by decide) (by kernel_rfl)
              simp only [nthR, detR, List.getD_cons_zero, List.getD_cons_succ] at d5 d7
              simp [go_sem, gives, frm, Act.put, nthR, detR, Region.wanted, Below.refl, d5, d7, s1]
            | 9, _ =>
              obtain rfl := Option.some.inj ho
              intro u x' hd
              have hc := Past.cell x'
              simp [go_sem, gives, frm, Act.put, nthR, detR, Region.wanted, Below.refl]
            | 10, _ =>
              obtain rfl := Option.some.inj ho
              intro u x' hd
              have hc := Past.cell x'
              simp [go_sem, gives, frm, Act.put, nthR, detR, Region.wanted, Below.refl]
            | 11, _ =>
              obtain rfl := Option.some.inj ho
              intro u x' hd
              have hc := Past.cell x'
              have d10 := hd 10 (by decide) (by kernel_rfl)
              simp only [nthR, detR, List.getD_cons_zero, List.getD_cons_succ] at d10
              simp [go_sem, gives, frm, Act.put, nthR, detR, Region.wanted, Below.refl, hc, d10, v1', vz']
            | 12, _ =>
              obtain rfl := Option.some.inj ho
              intro u x' hd
              have hc := Past.cell x'
              have d9 := hd 9 (by decide) (by kernel_rfl)
              have d11 := hd 11 (by decide) (by kernel_rfl)
              simp only [nthR, detR, List.getD_cons_zero, List.getD_cons_succ] at d9 d11
              simp [go_sem, gives, frm, Act.put, nthR, detR, Region.wanted, Below.refl, d9, d11, s2]
            | 13, _ =>
              obtain rfl := Option.some.inj ho
              intro u x' hd
              have hc := Past.cell x'
              have d8 := hd 8 (by decide) (by kernel_rfl)
              have d12 := hd 12 (by decide) (by kernel_rfl)
              simp only [nthR, detR, List.getD_cons_zero, List.getD_cons_succ] at d8 d12
              simp [go_sem, gives, frm, Act.put, nthR, detR, Region.wanted, Below.refl, d8, d12]
            | i + 14, h => exact absurd h (by omega)
          · intro i o h; cases h
          · intro u x' hu hne
            have c0 : u 0 = v := hu 0 (by decide)
            have c4 : u 4 = .int .i64 t := hu 4 (by decide)
            have c13 : u 13 = V (bn * m) (bn * c) := hu 13 (by decide)
            have HXX := hidE (show Below wo.heap.size wo x'.1 from bstep x'.2 HBX.out)
            simp only [frm, List.take, Act.put, c0, c4, c13]
            clear hu hne c0 c4 c13
            generalize x'.1 = w5 at *
            go_wp2_with (go_at_call 33; ((with_reducible refine (HWI.out _ (Nat.le_trans hwr HXX.out.size) (own_below HO.out HXX.out)).mono ?_); rintro e w6 ⟨v', rfl, ho6, hg6⟩))
            have hb6 : Below w3.heap.size w3 w6 := (HBR.out.trans (HXX.out.mono hwr)).grown hg6 (Nat.le_trans hwr HXX.out.size) (fun k hk => own_block HO.out hk)
            rw [← HST.out] at ho6
            have HB6 := hidE hb6; have HO6 := hidE ho6
            clear hb6 ho6 hg6
            go_wp2
            go_roundg (ts.length - (n + 1))
            case measure => have := HG.out; omega
            case rel => exact ⟨n + 1, v', _, rfl, rfl, by go_num, by omega, Nat.le_refl _, HB6.out, HO6.out⟩
        · obtain rfl : n = ts.length := by omega
          have q3 : decide ((ts.length : Int) < (ts.length : Int)) = false := decide_eq_false (by omega)
          have q4 : decide (ts.length < ts.length) = false := decide_eq_false (by omega)
          have ho := HO.out
          rw [List.take_length, ← HUL.out] at ho
          have HS2 := hidE (sliS_own ho)
          have HBF := hidE (HB4.out.trans (hbr.mono HB4.out.size))
          clear ho HO hbr
          go_wp2
          exact bodyPost_ret (v := .tuple #[v, .int .i64 0]) (by simp [results, Try.results12, go_sem]) rfl ⟨_, rfl, HS2.out, HBF.out⟩
end Go.Proofs.Ytlhokgcamcaonaa

namespace Go.Proofs.Ytlhokgcamcaonaa
open Go.ChangeShapes Go.WideShapes Go.ChangeAt Go.RowKit
attribute [local irreducible] Go.Calls

/-- What the walk keeps: the definition in its block, its parts, the pieces. -/
structure TL (W0 : World) (fr to' : Int) (a : Option Addr) (l : List Prt) (cap : Nat) (wa : Option Addr) (W : List Pc) (w : World) : Prop where
  bel : Below W0.heap.size W0 w
  d : Blk w W0.heap.size #[.int .i64 fr, .int .i64 to', .slice a l.length cap] 24
  T : ArgP w a l
  P : ArgVs w wa W
theorem TL.past {W0 : World} {fr to' : Int} {a : Option Addr} {l : List Prt} {cap : Nat} {wa : Option Addr} {W : List Pc} {w w' : World} (h : TL W0 fr to' a l cap wa W w) (hb : Below w.heap.size w w') : TL W0 fr to' a l cap wa W w' := ⟨h.bel.trans (hb.mono h.bel.size), h.d.past hb, h.T.past hb, h.P.past hb⟩
theorem lookT_zero (t : TI) : lookT 0 t = t := by unfold lookT; exact if_pos rfl
theorem lookT_err {er : Int} (h : er ≠ 0) (t : TI) : lookT er t = tiZ := by unfold lookT; exact if_neg h
/-- The program's answer and the document's on a whole definition. -/
theorem sat_both {fr to' : Int} {l : List Prt} {W : List Pc} {z : Int} {t : TI} (hz : wrongS fr to' l (decide ((0 : Int) ≤ 0 ∧ 0 < (l.length : Int))) W = z) (hh : z = 0 → Here l W 0 t) :
    ((lookT z t).ok && (decide (fr ≤ seB (lookT z t).se) && decide (seE (lookT z t).se ≤ to'))) = (decide (z = 0) && (winB fr to' l W && t.ok)) := by
  by_cases c : z = 0
  · subst c
    rw [lookT_zero, decide_eq_true rfl, Bool.true_and]
    obtain ⟨h1, _, h3, _⟩ := wrong_zero hz
    cases ho : t.ok
    · rw [Bool.false_and, Bool.and_false]
    · rw [win_se (chk_ok h1).2.2.1 (pcs_atoms (by omega) h3) (hh rfl) ho, Bool.true_and, Bool.and_true]
  · rw [lookT_err c, decide_eq_false c]; rfl
theorem here_if {fr to' : Int} {l : List Prt} {W V : List Pc} {z : Int} : ∃ t, wrongS fr to' l (decide (0 ≤ z ∧ z < (l.length : Int))) W = 0 → Here l V z t := by
  by_cases c : wrongS fr to' l (decide (0 ≤ z ∧ z < (l.length : Int))) W = 0
  · obtain ⟨h1, h2, _, _⟩ := wrong_zero c
    have h2 := of_decide_eq_true h2
    obtain ⟨t, ht⟩ := here_of V (chk_ok h1).2.2.1 h2.1 h2.2
    exact ⟨t, fun _ => ht⟩
  · exact ⟨tiZ, fun h => absurd h c⟩
theorem rsame_two {w : World} {n m c1 c2 : Nat} {a1 a2 : Option Addr} {F : List Sg} (h1 : SliS w (.slice a1 n c1) F) (h2 : SliS w (.slice a2 m c2) F) :
    Calls Try.prog 14 #[.slice a1 n c1, .slice a2 m c2] w fun e w' => e = .returned (.bool true) ∧ Below w.heap.size w w' :=
  rsame_10 h1 h2 (by unfold sameB; simp)
set_option maxRecDepth 100000 in
set_option maxHeartbeats 8000000 in
theorem sattells_walk (fr to' : Int) (l : List Prt) (W : List Pc) (a wa : Option Addr) (cap wcap : Nat) (x0 x1 x2 : Int) (W0 : World) (hl : l.length ≤ 9223372036854775807) (hWl : W.length ≤ 9223372036854775807) (hA : ArgP W0 a l) (hP : ArgVs W0 wa W) (hf : -9223372036854775808 ≤ fr ∧ fr ≤ 9223372036854775807) (ht : -9223372036854775808 ≤ to' ∧ to' ≤ 9223372036854775807) (hz : -9223372036854775808 ≤ x0 ∧ x0 ≤ 9223372036854775807) :
    Calls Try.prog 3 #[def8 fr to' a l.length cap, .slice wa W.length wcap, .agg #[.int .i64 x0, .int .i64 x1, .int .i64 x2]] W0 fun e w' => e = .returned (.bool true) ∧ Below W0.heap.size W0 w' := by
  have HB0 := hidE (show Below W0.heap.size W0 ((W0.alloc (.cells #[.int .i64 fr, .int .i64 to', .slice a l.length cap] 24)).alloc (.cells #[.int .i64 x0, .int .i64 x1, .int .i64 x2] 26)) from by (repeat (first | exact Below.refl _ _ | assumption | refine balloc ?_ _ | refine below_drewN ?_ _ | refine bstep (by assumption) ?_ | refine bstep (Past.prop _) ?_ | refine Below.setCell ?_ (by first | exact Nat.le_refl _ | (simp; done) | (simp; omega)) _)))
  have HT0 := hidE (show TL W0 fr to' a l cap wa W ((W0.alloc (.cells #[.int .i64 fr, .int .i64 to', .slice a l.length cap] 24)).alloc (.cells #[.int .i64 x0, .int .i64 x1, .int .i64 x2] 26)) from ⟨HB0.out, (Blk.made _ _ _).alloc _, hA.past HB0.out, hP.past HB0.out⟩)
  by_cases hg : 100 < l.length ∨ 100 < W.length
  · have HH := hidE head10_c
    by_cases h1 : 100 < l.length
    · have d1 : decide ((100 : Int) < (l.length : Int)) = true := decide_eq_true (by omega)
      have d1' : decide (100 < l.length) = true := decide_eq_true (by omega)
      clear hg h1 hl hWl hA hP hf ht hz
      go_enter Try.func3, Try.ntmps3
      go_wp2_with (go_at_call 7; (with_reducible refine (HH.out _).mono ?_); rintro e w1 ⟨rfl, hb1⟩)
      go_ret
      exact ⟨rfl, HB0.out.trans (hb1.mono HB0.out.size)⟩
    · have d1 : decide ((100 : Int) < (l.length : Int)) = false := decide_eq_false (by omega)
      have d1' : decide (100 < l.length) = false := decide_eq_false (by omega)
      have d2 : decide ((100 : Int) < (W.length : Int)) = true := decide_eq_true (by omega)
      have d2' : decide (100 < W.length) = true := decide_eq_true (by omega)
      clear hg h1 hl hWl hA hP hf ht hz
      go_enter Try.func3, Try.ntmps3
      go_wp2_with (go_at_call 7; (with_reducible refine (HH.out _).mono ?_); rintro e w1 ⟨rfl, hb1⟩)
      go_ret
      exact ⟨rfl, HB0.out.trans (hb1.mono HB0.out.size)⟩
  have hl1 : l.length ≤ 100 := by omega
  have hW1 : W.length ≤ 100 := by omega
  have d1 : decide ((100 : Int) < (l.length : Int)) = false := decide_eq_false (by omega)
  have d1' : decide (100 < l.length) = false := decide_eq_false (by omega)
  have d2 : decide ((100 : Int) < (W.length : Int)) = false := decide_eq_false (by omega)
  have d2' : decide (100 < W.length) = false := decide_eq_false (by omega)
  -- the numbers
  obtain ⟨E, hE⟩ : ∃ E, wrongS fr to' l (decide (0 ≤ x0 ∧ x0 < (l.length : Int))) W = E := ⟨_, rfl⟩
  obtain ⟨S, hS⟩ : ∃ S, wrongS fr to' l (decide (0 ≤ x0 ∧ x0 < (l.length : Int))) [] = S := ⟨_, rfl⟩
  obtain ⟨G, hG⟩ : ∃ G, wrongS fr to' l (unitB x1 x2) W = G := ⟨_, rfl⟩
  obtain ⟨Z, hZ⟩ : ∃ Z, wrongS fr to' l (decide ((0 : Int) ≤ 0 ∧ 0 < (l.length : Int))) W = Z := ⟨_, rfl⟩
  obtain ⟨t, hh⟩ := here_if (fr := fr) (to' := to') (l := l) (W := W) (V := W) (z := x0)
  obtain ⟨ts, hs⟩ := here_if (fr := fr) (to' := to') (l := l) (W := []) (V := []) (z := x0)
  obtain ⟨t0, h0⟩ := here_if (fr := fr) (to' := to') (l := l) (W := W) (V := W) (z := 0)
  obtain ⟨LU, hLU⟩ : ∃ LU, (if G = 0 then useL l x1 x2 W else []) = LU := ⟨_, rfl⟩
  have hboth := sat_both hZ (by rw [hZ] at h0; exact h0)
  have CK := hidE (fun (w : World) (h : TL W0 fr to' a l cap wa W w) => by
    have := rcheck_c fr to' l W a wa cap wcap x0 w hl hWl h.T h.P hf ht
    rw [hE] at this; exact this)
  have TE := hidE (fun (w : World) (h : TL W0 fr to' a l cap wa W w) => satTerm_c fr to' l W a wa cap wcap x0 E t w hl (by omega) h.T h.P hf ht hz hE (by rw [hE] at hh; exact hh))
  have EN := hidE (fun (w : World) (h : TL W0 fr to' a l cap wa W w) => satEnds_c fr to' l W a wa cap wcap x0 E t w hl (by omega) h.T h.P hf ht hz hE (by rw [hE] at hh; exact hh))
  have US := hidE (fun (w : World) (h : TL W0 fr to' a l cap wa W w) => by
    have := satUse_c fr to' x1 x2 l W a wa cap wcap G w hl (by omega) h.T h.P hf ht hG
    rw [hLU] at this; exact this)
  have RU := hidE (show ∀ (w : World) (h : TL W0 fr to' a l cap wa W w), Calls Try.prog 12 #[def8 fr to' a l.length cap, .slice wa W.length wcap, V x1 x2] w (OfIs w LU G) from fun w h => by
    by_cases c : G = 0
    · have := ruse_ok fr to' x1 x2 l W a wa cap wcap w hl (by omega) h.T h.P hf ht (hG.trans c)
      rw [if_pos c] at hLU
      rw [hLU] at this
      rw [c]; exact this
    · have := ruse_bad fr to' x1 x2 l W a wa cap wcap w hl (by omega) h.T h.P hf ht G hG c
      rw [if_neg c] at hLU
      rw [← hLU]; exact this)
  have SH := hidE (fun (w : World) (h : TL W0 fr to' a l cap wa W w) => satShort_c fr to' l a cap x0 S ts w hl h.T hf ht hz hS (by rw [hS] at hs; exact hs))
  have CS := hidE (fun (w : World) (h : TL W0 fr to' a l cap wa W w) => by
    have := rcheck_c fr to' l [] a none cap 0 x0 w hl (by simp) h.T (fun h => by simp at h) hf ht
    rw [hS, List.length_nil] at this; exact this)
  have SA := hidE (fun (w : World) (h : TL W0 fr to' a l cap wa W w) => satSat_c fr to' l W a wa cap wcap Z t0 w hl (by omega) h.T h.P hf ht hZ (by rw [hZ] at h0; exact h0))
  have RS := hidE (fun (w : World) (h : TL W0 fr to' a l cap wa W w) => by
    have := rsat_c fr to' l W a wa cap wcap Z t0 w hl (by omega) h.T h.P hf ht hZ (by rw [hZ] at h0; exact h0)
    rw [← hboth] at this; exact this)
  have HH := hidE head10_c
  have RSH := hidE (fun (hS0 : S = 0) (w : World) (h : TL W0 fr to' a l cap wa W w) => show Calls Try.prog 17 #[def8 fr to' a l.length cap, .int .i64 x0] w fun e w' => e = .returned (.int .i64 (lookT S ts).len) ∧ Below w.heap.size w w' from by
    have hw := hS.trans hS0
    obtain ⟨q1, q2, _, _⟩ := wrong_zero hw
    rw [show lookT S ts = ts from by rw [hS0, lookT_zero]]
    obtain ⟨y, K, deep, ink, o, hat, hfit, rfl, rfl⟩ := hs hw
    exact rshort_c fr to' l [] a cap (chk_ok q1).2.2.2.2 (chk_ok q1).2.2.1 _ y K o deep ink w (Nat.lt_succ_self _) hat hfit h.T)
  have RTE := hidE (fun (hE0 : E = 0) (w : World) (h : TL W0 fr to' a l cap wa W w) => show Calls Try.prog 19 #[def8 fr to' a l.length cap, .slice wa W.length wcap, .int .i64 x0] w fun e w' => e = .returned (.bool (lookT E t).ok) ∧ Below w.heap.size w w' from by
    have hw := hE.trans hE0
    obtain ⟨q1, q2, q3, q4⟩ := wrong_zero hw
    rw [show lookT E t = t from by rw [hE0, lookT_zero]]
    obtain ⟨y, K, deep, ink, o, hat, hfit, rfl, rfl⟩ := hh hw
    exact rterm_c fr to' l W a wa cap wcap (chk_ok q1).2.2.2.2 (chk_ok q1).2.2.1 hWl (far_ok q4) (pcs_atoms (by omega) q3) _ y K o deep ink w (Nat.lt_succ_self _) hat hfit h.T h.P)
  have REN := hidE (fun (hE0 : E = 0) (w : World) (h : TL W0 fr to' a l cap wa W w) => show Calls Try.prog 18 #[def8 fr to' a l.length cap, .slice wa W.length wcap, .int .i64 x0] w fun e w' => e = .returned (.tuple #[.int .i64 (seB (lookT E t).se), .int .i64 (seE (lookT E t).se), .bool (lookT E t).se.isSome]) ∧ Below w.heap.size w w' from by
    have hw := hE.trans hE0
    obtain ⟨q1, q2, q3, q4⟩ := wrong_zero hw
    rw [show lookT E t = t from by rw [hE0, lookT_zero]]
    obtain ⟨y, K, deep, ink, o, hat, hfit, rfl, rfl⟩ := hh hw
    have := rends_c fr to' l W a wa cap wcap o w (by omega) hat.lt hWl h.T h.P (far_ok q4) (dOk_tree (chk_ok q1).2.2.1)
    rw [se_ends (pcs_atoms (by omega) q3) hat hfit] at this
    exact this)
  have HAN := hidE (show E ≠ 0 → (lookT E t).ok = false ∧ seB (lookT E t).se = 0 ∧ seE (lookT E t).se = 0 ∧ (lookT E t).se.isSome = false from fun h => by rw [lookT_err h]; exact ⟨rfl, rfl, rfl, rfl⟩)
  have HBN := hidE (show S ≠ 0 → (lookT S ts).len = 0 from fun h => by rw [lookT_err h]; rfl)
  have hbE : (E != E) = false := bne_self_eq_false E
  have hbG : (G != G) = false := bne_self_eq_false G
  have hbS : (S != S) = false := bne_self_eq_false S
  have HA0 := hidE hA; have HP0 := hidE hP
  clear hboth hE hS hG hZ hh hs h0 hLU hg hl hWl hA hP hf ht hz hl1 hW1
  generalize (lookT E t).ok = ao at *
  generalize seB (lookT E t).se = ab at *
  generalize seE (lookT E t).se = ae at *
  generalize (lookT E t).se.isSome = ai at *
  generalize (lookT S ts).len = bl at *
  generalize hr : ((lookT Z t0).ok && (decide (fr ≤ seB (lookT Z t0).se) && decide (seE (lookT Z t0).se ≤ to'))) = r at *
  have hbr : (r != r) = false := bne_self_eq_false r
  clear hr
  go_enter Try.func3, Try.ntmps3
  go_upto_region 3 with fail
  refine wp_region_J 9 [8] (nthR [detR (.pointer (some ⟨W0.heap.size + 1, 0, none⟩)), detR (.int .i64 x0), detR (.pointer (some ⟨W0.heap.size + 1, 1, none⟩)), detR (.int .i64 x1), detR (.pointer (some ⟨W0.heap.size + 1, 2, none⟩)), detR (.int .i64 x2), detR (V x1 x2), newR (W0.heap.size + 2) #[.int .i64 0, .int .i64 0] 29, detR (.int .i64 x0)]) (fun _ => false) (by kernel_rfl) (by simp) (by kernel_rfl) (stab_nth (by simp [stab_det, stab_new])) ?_ ?_ ?_
  · intro i o hi ho
    match i, hi with
    | 0, _ =>
      obtain rfl := Option.some.inj ho
      intro u x hd
      have hc := Past.cell x
      simp [go_sem, gives, frm, Act.put, nthR, detR, Region.wanted, Below.refl]
    | 1, _ =>
      obtain rfl := Option.some.inj ho
      intro u x hd
      have hc := Past.cell x
      have d0 := hd 0 (by decide) (by kernel_rfl)
      simp only [nthR, detR, List.getD_cons_zero] at d0
      simp [go_sem, gives, frm, Act.put, nthR, detR, Region.wanted, Below.refl, hc, d0]
    | 2, _ =>
      obtain rfl := Option.some.inj ho
      intro u x hd
      have hc := Past.cell x
      simp [go_sem, gives, frm, Act.put, nthR, detR, Region.wanted, Below.refl]
    | 3, _ =>
      obtain rfl := Option.some.inj ho
      intro u x hd
      have hc := Past.cell x
      have d2 := hd 2 (by decide) (by kernel_rfl)
      simp only [nthR, detR, List.getD_cons_zero, List.getD_cons_succ] at d2
      simp [go_sem, gives, frm, Act.put, nthR, detR, Region.wanted, Below.refl, hc, d2]
    | 4, _ =>
      obtain rfl := Option.some.inj ho
      intro u x hd
      have hc := Past.cell x
      simp [go_sem, gives, frm, Act.put, nthR, detR, Region.wanted, Below.refl]
    | 5, _ =>
      obtain rfl := Option.some.inj ho
      intro u x hd
      have hc := Past.cell x
      have d4 := hd 4 (by decide) (by kernel_rfl)
      simp only [nthR, detR, List.getD_cons_zero, List.getD_cons_succ] at d4
      simp [go_sem, gives, frm, Act.put, nthR, detR, Region.wanted, Below.refl, hc, d4]
    | 6, _ =>
      obtain rfl := Option.some.inj ho
      intro u x hd
      have hc := Past.cell x
      have d3 := hd 3 (by decide) (by kernel_rfl)
      have d5 := hd 5 (by decide) (by kernel_rfl)
      simp only [nthR, detR, List.getD_cons_zero, List.getD_cons_succ] at d3 d5
      simp [go_sem, gives, frm, Act.put, nthR, detR, Region.wanted, Below.refl, d3, d5]
    | 7, _ =>
      obtain rfl := Option.some.inj ho
      intro u x hd
      have hc := Past.cell x
      simp [go_sem, gives, nthR, Region.wanted]
      exact ⟨by (repeat (first | exact Below.refl _ _ | assumption | refine balloc ?_ _ | refine below_drewN ?_ _ | refine bstep (by assumption) ?_ | refine bstep (Past.prop _) ?_ | refine Below.setCell ?_ (by first | exact Nat.le_refl _ | (simp; done) | (simp; omega)) _)), _, rfl, by have := x.2.size; simp at this; omega, Blk.made _ _ _⟩
    | 8, _ =>
      obtain rfl := Option.some.inj ho
      intro u x hd
      have hc := Past.cell x
      have d1 := hd 1 (by decide) (by kernel_rfl)
      simp only [nthR, detR, List.getD_cons_zero, List.getD_cons_succ] at d1
      simp [go_sem, gives, frm, Act.put, nthR, detR, Region.wanted, Below.refl, d1]
    | i + 9, h => exact absurd h (by omega)
  · intro i o hx ho
    simp only [List.mem_cons, List.not_mem_nil, or_false] at hx
    rcases hx with rfl
    · obtain rfl := Option.some.inj ho
      refine ⟨rfl, fun _ _ _ _ h => h, fun u x hd => ?_⟩
      have d1 := hd 1 (by decide) (by kernel_rfl)
      simp only [nthR, detR, List.getD_cons_zero, List.getD_cons_succ] at d1
      refine ⟨rfl, .int .i64 x0, rfl, fun w' => ?_⟩
      simp [go_sem, frm, Act.put, d1]
  intro u xx hu hne
  have e8 : u 8 = .int .i64 x0 := hu 8 (by decide)
  have e6 : u 6 = V x1 x2 := hu 6 (by decide)
  obtain ⟨p, e7, hpz, B7⟩ : newR (W0.heap.size + 2) #[.int .i64 0, .int .i64 0] 29 (u 7) xx.1 := hu 7 (by decide)
  replace HB0 := hidE (HB0.out.trans (xx.2.mono HB0.out.size))
  replace HT0 := hidE (HT0.out.past xx.2)
  clear hu hne
  generalize xx.1 = w1 at *
  have HT := hidE (show TL W0 fr to' a l cap wa W ((w1.setCell ⟨p, 0, none⟩ (.int .i64 x1)).setCell ⟨p, 1, none⟩ (.int .i64 x2)) from by
    have hb : Below W0.heap.size W0 ((w1.setCell ⟨p, 0, none⟩ (.int .i64 x1)).setCell ⟨p, 1, none⟩ (.int .i64 x2)) := (HB0.out.setCell (show W0.heap.size ≤ p from by omega) _).setCell (show W0.heap.size ≤ p from by omega) _
    exact ⟨hb, (HT0.out.d.other (by omega) _).other (by omega) _, HA0.out.past hb, HP0.out.past hb⟩)
  have HU := hidE (show Blk ((w1.setCell ⟨p, 0, none⟩ (.int .i64 x1)).setCell ⟨p, 1, none⟩ (.int .i64 x2)) p #[.int .i64 x1, .int .i64 x2] 29 from (B7.set 0 _).set 1 _)
  have f7 := B7.free; have z7 := B7.lt; have g0 := B7.cell 0; have g1 := B7.cell 1
  simp at g0 g1
  clear B7 hpz HB0 HA0 HP0 HT0
  simp only [frm, List.take, Act.put, e6, e7, e8]
  clear e6 e7 e8
  go_upto_region 4 with fail
  clear f7 z7 g0 g1
  generalize World.setCell _ _ _ = w2 at *
  have p0 := HT.out.d.cell 0; have p1 := HT.out.d.cell 1; have p2 := HT.out.d.cell 2; have pz := HT.out.d.lt
  have u0 := HU.out.cell 0; have u1 := HU.out.cell 1; have uz := HU.out.lt
  simp at p0 p1 p2 u0 u1
  go_wp2_with fail
  ((with_reducible refine (CK.out _ HT.out).mono ?_); rintro e w3 ⟨rfl, hb3⟩)
  replace HT := hidE (HT.out.past hb3)
  replace HU := hidE (HU.out.past hb3)
  clear p0 p1 p2 pz u0 u1 uz hb3
  have p0 := HT.out.d.cell 0; have p1 := HT.out.d.cell 1; have p2 := HT.out.d.cell 2; have pz := HT.out.d.lt
  have u0 := HU.out.cell 0; have u1 := HU.out.cell 1; have uz := HU.out.lt
  simp at p0 p1 p2 u0 u1
  go_wp2_with fail
  ((with_reducible refine (TE.out _ HT.out).mono ?_); rintro e w4 ⟨rfl, hb4⟩)
  replace HT := hidE (HT.out.past hb4)
  replace HU := hidE (HU.out.past hb4)
  clear p0 p1 p2 pz u0 u1 uz hb4
  have p0 := HT.out.d.cell 0; have p1 := HT.out.d.cell 1; have p2 := HT.out.d.cell 2; have pz := HT.out.d.lt
  have u0 := HU.out.cell 0; have u1 := HU.out.cell 1; have uz := HU.out.lt
  simp at p0 p1 p2 u0 u1
  go_wp2_with fail
  ((with_reducible refine (EN.out _ HT.out).mono ?_); rintro e w5 ⟨rfl, hb5⟩)
  replace HT := hidE (HT.out.past hb5)
  replace HU := hidE (HU.out.past hb5)
  clear p0 p1 p2 pz u0 u1 uz hb5
  have p0 := HT.out.d.cell 0; have p1 := HT.out.d.cell 1; have p2 := HT.out.d.cell 2; have pz := HT.out.d.lt
  have u0 := HU.out.cell 0; have u1 := HU.out.cell 1; have uz := HU.out.lt
  simp at p0 p1 p2 u0 u1
  go_wp2_with fail
  ((with_reducible refine (US.out _ HT.out).mono ?_); rintro e w6 ⟨v6, rfl, hs6, hb6⟩)
  replace HT := hidE (HT.out.past hb6)
  replace HU := hidE (HU.out.past hb6)
  obtain ⟨sa, sc, rfl, _⟩ := id hs6
  have HS1 := hidE hs6
  clear hs6
  clear p0 p1 p2 pz u0 u1 uz hb6
  have p0 := HT.out.d.cell 0; have p1 := HT.out.d.cell 1; have p2 := HT.out.d.cell 2; have pz := HT.out.d.lt
  have u0 := HU.out.cell 0; have u1 := HU.out.cell 1; have uz := HU.out.lt
  simp at p0 p1 p2 u0 u1
  go_wp2_with fail
  ((with_reducible refine (RU.out _ HT.out).mono ?_); rintro e w7 ⟨v7, rfl, hs7, hb7⟩)
  replace HT := hidE (HT.out.past hb7)
  replace HU := hidE (HU.out.past hb7)
  replace HS1 := hidE (HS1.out.past hb7)
  obtain ⟨sa2, sc2, rfl, _⟩ := id hs7
  have HS2 := hidE hs7
  clear hs7
  clear p0 p1 p2 pz u0 u1 uz hb7
  have p0 := HT.out.d.cell 0; have p1 := HT.out.d.cell 1; have p2 := HT.out.d.cell 2; have pz := HT.out.d.lt
  have u0 := HU.out.cell 0; have u1 := HU.out.cell 1; have uz := HU.out.lt
  simp at p0 p1 p2 u0 u1
  go_wp2_with fail
  ((with_reducible refine (SH.out _ HT.out).mono ?_); rintro e w8 ⟨rfl, hb8⟩)
  replace HT := hidE (HT.out.past hb8)
  replace HU := hidE (HU.out.past hb8)
  replace HS1 := hidE (HS1.out.past hb8)
  replace HS2 := hidE (HS2.out.past hb8)
  clear p0 p1 p2 pz u0 u1 uz hb8
  have p0 := HT.out.d.cell 0; have p1 := HT.out.d.cell 1; have p2 := HT.out.d.cell 2; have pz := HT.out.d.lt
  have u0 := HU.out.cell 0; have u1 := HU.out.cell 1; have uz := HU.out.lt
  simp at p0 p1 p2 u0 u1
  go_upto_region 10 with fail
  refine wp_region_past_lit (by kernel_rfl) (by kernel_rfl) ?_
  have hcp := Past.cell (W := w8)
  repeat (go_big_quiet_step (first | (go_at_call 14; exact Past.call _ (rsame_two (HS1.out.past (Past.prop _)) (HS2.out.past (Past.prop _)))) | (go_at_call 8; exact Past.call _ (CS.out _ (HT.out.past (Past.prop _)))) | (go_at_call 15; exact Past.call _ (SA.out _ (HT.out.past (Past.prop _)))) | (go_at_call 16; exact Past.call _ (RS.out _ (HT.out.past (Past.prop _))))))
  refine wpQuiet_nil ?_
  rintro _ ⟨xq, rfl⟩
  replace HT := hidE (HT.out.past xq.2)
  replace HU := hidE (HU.out.past xq.2)
  replace HS1 := hidE (HS1.out.past xq.2)
  replace HS2 := hidE (HS2.out.past xq.2)
  clear hcp p0 p1 p2 pz u0 u1 uz
  generalize xq.1 = w9 at *
  have p0 := HT.out.d.cell 0; have p1 := HT.out.d.cell 1; have p2 := HT.out.d.cell 2; have pz := HT.out.d.lt
  have u0 := HU.out.cell 0; have u1 := HU.out.cell 1; have uz := HU.out.lt
  simp at p0 p1 p2 u0 u1
  clear SA RS CS US RU SH TE EN CK hbE hbG hbr HS1 HS2
  obtain ⟨bS, hbS2⟩ : ∃ bS, (S == 0) = bS := ⟨_, rfl⟩
  have hbS3 : (S != 0) = !bS := by rw [← hbS2]; rfl
  have hbb : (bl != bl) = false := bne_self_eq_false bl
  have hRS : bS = true → S = 0 := fun h => by rw [h] at hbS2; exact beq_iff_eq.1 hbS2
  have hNS : bS = false → (bl != 0) = false := fun h => by
    rw [HBN.out (fun e => by rw [e] at hbS2; rw [h] at hbS2; cases hbS2)]; rfl
  cases bS
  · have hNS2 := hNS rfl
    clear hRS hNS RSH HBN
    simp only [Bool.not_false] at hbS3
    by_cases hE0 : E = 0
    · have hE1 : (E != 0) = false := bne_eq_false_iff_eq.2 hE0
      have RTE2 := hidE (RTE.out hE0); have REN2 := hidE (REN.out hE0)
      clear hE0 RTE REN HAN
      have q1 : (ao == ao) = true := beq_self_eq_true ao
      have q2 : (ab == ab) = true := beq_self_eq_true ab
      have q3 : (ae == ae) = true := beq_self_eq_true ae
      have q4 : (ai == ai) = true := beq_self_eq_true ai
      go_wp2_with fail
      ((with_reducible refine (REN2.out _ HT.out).mono ?_); rintro e w10 ⟨rfl, hb10⟩)
      replace HT := hidE (HT.out.past hb10); replace HU := hidE (HU.out.past hb10)
      clear p0 p1 p2 pz u0 u1 uz hb10
      have p0 := HT.out.d.cell 0; have p1 := HT.out.d.cell 1; have p2 := HT.out.d.cell 2; have pz := HT.out.d.lt
      have u0 := HU.out.cell 0; have u1 := HU.out.cell 1; have uz := HU.out.lt
      simp at p0 p1 p2 u0 u1
      go_wp2_with fail
      ((with_reducible refine (RTE2.out _ HT.out).mono ?_); rintro e w11 ⟨rfl, hb11⟩)
      replace HT := hidE (HT.out.past hb11)
      clear p0 p1 p2 pz u0 u1 uz hb11
      go_wp2_with fail
      ((with_reducible refine (HH.out _).mono ?_); rintro e w12 ⟨rfl, hb12⟩)
      replace HT := hidE (HT.out.past hb12)
      clear hb12
      go_wp2
      go_ret
      exact ⟨rfl, HT.out.bel⟩
    · have hE1 : (E != 0) = true := bne_iff_ne.2 hE0
      obtain ⟨rfl, rfl, rfl, rfl⟩ := HAN.out hE0
      clear hE0 RTE REN HAN
      go_wp2_with fail
      ((with_reducible refine (HH.out _).mono ?_); rintro e w10 ⟨rfl, hb10⟩)
      replace HT := hidE (HT.out.past hb10)
      clear p0 p1 p2 pz u0 u1 uz hb10
      go_wp2
      go_ret
      exact ⟨rfl, HT.out.bel⟩
  · have RSH2 := hidE (RSH.out (hRS rfl))
    clear hRS hNS RSH HBN
    simp only [Bool.not_true] at hbS3
    go_wp2_with fail
    ((with_reducible refine (RSH2.out _ HT.out).mono ?_); rintro e w10 ⟨rfl, hb10⟩)
    replace HT := hidE (HT.out.past hb10); replace HU := hidE (HU.out.past hb10)
    clear p0 p1 p2 pz u0 u1 uz hb10
    have p0 := HT.out.d.cell 0; have p1 := HT.out.d.cell 1; have p2 := HT.out.d.cell 2; have pz := HT.out.d.lt
    have u0 := HU.out.cell 0; have u1 := HU.out.cell 1; have uz := HU.out.lt
    simp at p0 p1 p2 u0 u1
    clear hbS RSH2
    by_cases hE0 : E = 0
    · have hE1 : (E != 0) = false := bne_eq_false_iff_eq.2 hE0
      have RTE2 := hidE (RTE.out hE0); have REN2 := hidE (REN.out hE0)
      clear hE0 RTE REN HAN
      have q1 : (ao == ao) = true := beq_self_eq_true ao
      have q2 : (ab == ab) = true := beq_self_eq_true ab
      have q3 : (ae == ae) = true := beq_self_eq_true ae
      have q4 : (ai == ai) = true := beq_self_eq_true ai
      go_wp2_with fail
      ((with_reducible refine (REN2.out _ HT.out).mono ?_); rintro e w11 ⟨rfl, hb11⟩)
      replace HT := hidE (HT.out.past hb11); replace HU := hidE (HU.out.past hb11)
      clear p0 p1 p2 pz u0 u1 uz hb11
      have p0 := HT.out.d.cell 0; have p1 := HT.out.d.cell 1; have p2 := HT.out.d.cell 2; have pz := HT.out.d.lt
      have u0 := HU.out.cell 0; have u1 := HU.out.cell 1; have uz := HU.out.lt
      simp at p0 p1 p2 u0 u1
      go_wp2_with fail
      ((with_reducible refine (RTE2.out _ HT.out).mono ?_); rintro e w12 ⟨rfl, hb12⟩)
      replace HT := hidE (HT.out.past hb12)
      clear p0 p1 p2 pz u0 u1 uz hb12
      go_wp2_with fail
      ((with_reducible refine (HH.out _).mono ?_); rintro e w13 ⟨rfl, hb13⟩)
      replace HT := hidE (HT.out.past hb13)
      clear hb13
      go_wp2
      go_ret
      exact ⟨rfl, HT.out.bel⟩
    · have hE1 : (E != 0) = true := bne_iff_ne.2 hE0
      obtain ⟨rfl, rfl, rfl, rfl⟩ := HAN.out hE0
      clear hE0 RTE REN HAN
      go_wp2_with fail
      ((with_reducible refine (HH.out _).mono ?_); rintro e w11 ⟨rfl, hb11⟩)
      replace HT := hidE (HT.out.past hb11)
      clear p0 p1 p2 pz u0 u1 uz hb11
      go_wp2
      go_ret
      exact ⟨rfl, HT.out.bel⟩
end Go.Proofs.Ytlhokgcamcaonaa
