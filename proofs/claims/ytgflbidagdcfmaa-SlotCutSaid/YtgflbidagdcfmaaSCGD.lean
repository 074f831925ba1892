/- Package slot: a list of windows without the gaps that an iterator hands on. No conditions but the lists' sizes. The contract of slot.Begins. No conditions but the lists' sizes, and that the slices' cells read as integers. Package slot: the first and the last begin. No conditions but the lists' sizes, and that the slices' cells read as integers. What the statements on package slot call of their own: what is too great, the document's example, rows compared. No conditions but sizes. The statements' own 'within' on rows of windows. No conditions but the lists' sizes, and that the slices' cells read as integers. The contracts of calc.next and calc.pass. No conditions but that the slices' cells read as integers. The contract of the iterator (calc.pair).together: it hands on the times, and both values, one after the other. No conditions but that the slices' cells read as integers, and sizes. The contracts of vec.Min and vec.Max. No conditions. The contracts of vec.Sub and Add, on what vec.May's text says. No conditions but that a slice's cells read as integers. The contracts of the operations that calc combines by: plus, vec.Sub, and vec.Min and vec.Max behind always. No conditions. slices.swapRangeCmpFunc over a row of integers of the call's own. No conditions but the row's size. slices.rotateCmpFunc over a row of integers of the call's own. No conditions but the row's size. -/
import Derived.Test.YtgflbidagdcfmaaSCGC
import Derived.BigRegionIn
import Derived.Sort.LoopGhostIn
import Derived.Test.YtgflbidagdcfmaaSCMA
import Derived.Test.YtgflbidagdcfmaaSCGA
import Derived.Test.YtgflbidagdcfmaaSCGB
import Derived.OwnWalkIn
import Derived.LoopTactic
import Derived.Test.YtgflbidagdcfmaaRows
import Derived.BigRegion
import Derived.Outline
namespace Go.Proofs.Ytgflbidagdcfmaa
open Go.ChangeShapes Go.WideShapes Go.ChangeAt Go.RowKit Go.Shelf
attribute [local irreducible] Go.Calls
attribute [local go_sem] Oper.semAt_some

theorem RV.type_ne {W : World} {q b : Nat} {cu cur : Array Value} (h : Blk W q cu 24) (h' : Blk W b cur 56) : b ≠ q := fun e => by
  subst e
  have := h.symm.trans h'
  simp at this
set_option maxRecDepth 100000 in
set_option maxHeartbeats 16000000 in
theorem without_c (l gs : List Wn) (a : Option Addr) (n cap β gf : Nat) (rb lb : Array Value) (b : Nat) (cur : Array Value) (w : World)
    (eg : ∀ args w, (callFunc gf args).run Try.prog w = .ok (.enter gf args) w) (hown : w.ownsRow β 24 2 (.slice a n cap) l.length (cellsOfV l)) (hβ : β ≤ w.heap.size) (hB : Blk w b cur 56)
    (hseq : ∀ w', Below w.heap.size w w' → SeqX Try.prog gf rb lb encW β (fun W => Blk W b cur 56) gs w') (hlen : ∀ pre, pre <+: gs → (woF l pre).1.length + (woF l pre).2.length ≤ 1000000) :
    Calls Try.prog 23 #[.slice a n cap, .func (.func gf) rb lb] w fun e w' => ∃ v, e = .returned v ∧ w'.ownsRow w.heap.size 24 2 v (woL l gs).length (cellsOfV (woL l gs)) ∧ Below β w w' ∧ Blk w' b cur 56 ∧ ∀ k cs t, t ≠ 24 → t ≠ 56 → Blk w k cs t → Blk w' k cs t := by
  obtain ⟨hn, hnc, q, hRV, hqz, hqβ, hqn, hqo, hqt⟩ := RV.of_own hown hB
  have HRV := hidE hRV; have HSEQ := hidE hseq; have HLEN := hidE hlen; have HB := hidE hB; have HN := hidE hn; have HQO := hidE hqo; have HQN := hidE hqn; have HQB := hidE hqβ; have HBZ := hidE hB.lt; have HQT := hidE hqt
  clear hRV hseq hlen hB hn hqo hqn hqβ hown hqt
  refine (callsIn_wide (n := 0)).1 (callsIn_of_wp_marks Try.func23 rfl trivial ((wpIn_wide (n := 0)).2 ?_))
  simp only [Try.ntmps23, List.size_toArray, List.length_cons, List.length_nil, Nat.reduceAdd, Nat.reduceSub, Array.replicate_succ, Array.replicate_zero, List.push_toArray, List.append_toArray, List.nil_append, List.cons_append]
  go_wp2
  obtain ⟨w2, hw2⟩ : ∃ w2, w2 = (w.alloc (Obj.cells #[.slice a 0 0] 31)).alloc (Obj.cells #[.slice a n cap] 31) := ⟨_, rfl⟩
  have hz2 : w2.heap.size = w.heap.size + 2 := by rw [hw2]; simp
  have hb2 : Below w.heap.size w w2 := by rw [hw2]; (repeat (first | exact Below.refl _ _ | assumption | refine balloc ?_ _ | refine below_drewN ?_ _ | refine bstep (by assumption) ?_ | refine bstep (Past.prop _) ?_ | refine Below.setCell ?_ (by first | exact Nat.le_refl _ | (simp; done) | (simp; omega)) _))
  have hI0 : WI w β w.heap.size (w.heap.size + 1) q b cur [] l none w2 := by
    refine ⟨⟨_, ?_, .inl ⟨rfl, rfl, a, rfl⟩, fun k e _ => HQO.out k (by cases a with | none => cases e | some ad => exact e)⟩, ⟨_, ?_, HRV.out.keep (hb2.block q hqz), HQN.out⟩, HB.out.past hb2, hb2.mono hβ, (fun b k e => by cases e), fun k q1 q2 => hb2.block k q1⟩
    · rw [hw2]; exact (Blk.made _ _ _).alloc _
    · rw [hw2]; exact Blk.made_at _ _ _ _ (by simp)
  rw [← hw2]
  have HW2 := hidE hb2; have HI0 := hidE hI0
  clear hw2 hI0
  refine wp_rangeFunc_X (n₀ := β) (S := gs) (K := fun W => Blk W b cur 56) rfl eg (by omega) (HSEQ.out _ hb2) (fun _ => rfl)
    (fun pre g W => WI w β w.heap.size (w.heap.size + 1) q b cur (woF l pre).1 (woF l pre).2 g W)
    (fun s g A B h hb hk => h.keep hb (by omega) (by omega) (by omega) (by have := HBZ.out; omega) (by omega) (by omega) hk)
    (fun s g A h => by obtain ⟨v, _, h2, _⟩ := h.kept; exact h2.has) (fun s g A h => h.runs) HI0.out (fun _ _ => False) (fun _ _ _ h _ => h)
    (fun y a1 W => ∃ (Bx : Nat) (u0 u1 u2 u3 u4 u8 u9 u10 u11 u12 u13 u14 u15 u16 u17 u18 u19 u20 u21 u22 u23 u24 u25 u26 u27 u28 u29 u30 u31 u32 u33 u34 u35 u36 u37 u38 u39 u40 u41 u42 u43 u44 u45 u46 u47 u48 u49 u50 u51 u52 : Value), w2.heap.size ≤ Bx ∧ Blk W Bx #[.int .i64 y.1, .int .i64 y.2] 24 ∧ (∃ v, Blk W w.heap.size #[v] 31 ∧ ∀ k, v.ownBlock = some k → k < Bx) ∧ a1 = { tmps := #[u0, u1, u2, u3, u4, .pointer (some ⟨w.heap.size, 0, none⟩), .pointer (some ⟨w.heap.size + 1, 0, none⟩), .pointer (some ⟨Bx, 0, none⟩), u8, u9, u10, u11, u12, u13, u14, u15, u16, u17, u18, u19, u20, u21, u22, u23, u24, u25, u26, u27, u28, u29, u30, u31, u32, u33, u34, u35, u36, u37, u38, u39, u40, u41, u42, u43, u44, u45, u46, u47, u48, u49, u50, u51, u52], defers := [] })
    ?hax ?assign ?body ?done ?stop
  case hax =>
    rintro y a1 A lp r o ⟨Bx, u0, u1, u2, u3, u4, u8, u9, u10, u11, u12, u13, u14, u15, u16, u17, u18, u19, u20, u21, u22, u23, u24, u25, u26, u27, u28, u29, u30, u31, u32, u33, u34, u35, u36, u37, u38, u39, u40, u41, u42, u43, u44, u45, u46, u47, u48, u49, u50, u51, u52, h1, h2, ⟨v, h3, h4⟩, h5⟩ hlr
    exact ⟨Bx, _, _, _, _, _, _, _, _, _, _, _, _, _, _, _, _, _, _, _, _, _, _, _, _, _, _, _, _, _, _, _, _, _, _, _, _, _, _, _, _, _, _, _, _, _, _, _, _, _, _, h1, (World.putObj_heap_other (fun e => by subst e; rw [show A.heap[Bx]? = _ from h2] at hlr; cases hlr)).trans h2, ⟨v, (World.putObj_heap_other (fun e => by rw [← e, show A.heap[w.heap.size]? = _ from h3] at hlr; cases hlr)).trans h3, h4⟩, h5⟩
  case assign =>
    intro lp pre y g W K hsz hi hK
    obtain ⟨⟨v, k1, k2, k3⟩, _⟩ := id hi
    have hown := k2.has
    have hkz := k1.lt
    have HK1 := hidE k1
    have hko : ∀ k, v.ownBlock = some k → k < W.heap.size := fun k e => by
      rcases k2 with ⟨e1, e2, _⟩ | ⟨β', k', e1, e2, e3, e4⟩
      · have := k3 k e e1; omega
      · rw [e2] at e; cases e; exact own_lt e4 e2
    dsimp only [encW]
    clear k1 k2 k3
    gi_wp2
    refine hK _ _ ((Below.refl _ _).alloc (Nat.le_refl _) _) (hi.keep (N := W.heap.size) ((Below.refl _ _).alloc (Nat.le_refl _) _) (by omega) (by omega) (by omega) (by have := HBZ.out; omega) (by omega) (by omega) (fun b k e => keptA (hown b k e).2 _)) ⟨W.heap.size, _, _, _, _, _, _, _, _, _, _, _, _, _, _, _, _, _, _, _, _, _, _, _, _, _, _, _, _, _, _, _, _, _, _, _, _, _, _, _, _, _, _, _, _, _, _, _, _, _, _, by omega, Blk.made _ _ _, ⟨v, HK1.out.alloc _, hko⟩, rfl⟩
  case stop =>
    intro D pre W hD hpre hf
    exact hf.elim
  case body =>
    rintro lp pre ⟨y1, y2⟩ g a1 W hsz hi ⟨Bx, u0, u1, u2, u3, u4, u8, u9, u10, u11, u12, u13, u14, u15, u16, u17, u18, u19, u20, u21, u22, u23, u24, u25, u26, u27, u28, u29, u30, u31, u32, u33, u34, u35, u36, u37, u38, u39, u40, u41, u42, u43, u44, u45, u46, u47, u48, u49, u50, u51, u52, hBx, bX, ⟨v0, kv0, hv0⟩, rfl⟩ hpre
    have hgx : ∀ b k, g = some (b, k) → k < Bx := by
      rintro b' k e
      obtain ⟨v, k1, k2, _⟩ := hi.kept
      have e1 : v = v0 := by
        have := k1.symm.trans kv0
        simpa using this
      subst e1
      rcases k2 with ⟨e', _⟩ | ⟨β', k', e', e2, e3, e4⟩
      · rw [e'] at e; cases e
      · rw [e'] at e; cases e; exact hv0 _ e2
    have HLC := hidE (show LC w β q b Bx g W from ⟨hqz, HBZ.out, hβ, by omega, bX.lt, hgx⟩)
    have hlen := HLEN.out _ hpre
    obtain ⟨Kf, hKf⟩ : ∃ Kf, Kf = (woF l (pre ++ [(y1, y2)])).1 := ⟨_, rfl⟩
    obtain ⟨Rf, hRf⟩ : ∃ Rf, Rf = (woF l (pre ++ [(y1, y2)])).2 := ⟨_, rfl⟩
    rw [← hKf, ← hRf] at hlen
    have hK0 : (woF l pre).1 ++ (cutW (y1, y2) (woF l pre).2).1 = Kf := by rw [hKf, woF_snoc]; rfl
    have hR0 : (cutW (y1, y2) (woF l pre).2).2 = Rf := by rw [hRf, woF_snoc]; rfl
    have HKF := hidE hKf; have HRF := hidE hRf
    have HR00 := hidE (show 0 < (woF l pre).2.length → β ≤ q from fun h => HQB.out (Nat.lt_of_lt_of_le h (woF_rest l pre)))
    have HR01 := hidE (show (woF l pre).2.length ≤ 1000000 from Nat.le_trans (Nat.le_add_left _ _) (HLEN.out pre ((List.prefix_append ..).trans hpre)))
    clear hKf hRf
    generalize (woF l pre).1 = K0 at *
    generalize (woF l pre).2 = R0 at *
    have HL0 := hidE (show LI w β q b Bx cur (y1, y2) g W K0 R0 g W from ⟨hi, Below.refl _ _, bX, fun _ _ _ _ => rfl, .inl rfl⟩)
    have HK0 := hidE hK0; have HR0 := hidE hR0
    clear hi bX hK0 hR0 hgx kv0 hv0 hpre hBx
    gi_wp2
    gi_loopg [] (2 * R0.length + 2) (fun gh wr => ∃ (K R : List Wn) (g' : Option (Nat × Nat)), LI w β q b Bx cur (y1, y2) g W K R g' wr ∧ K ++ (cutW (y1, y2) R).1 = Kf ∧ (cutW (y1, y2) R).2 = Rf ∧ 2 * R.length + hdW y2 R ≤ gh ∧ (0 < R.length → β ≤ q) ∧ R.length ≤ 1000000)
    case atStart => exact ⟨K0, R0, g, HL0.out, HK0.out, HR0.out, by have := hdW_le y2 R0; omega, HR00.out, HR01.out⟩
    case round =>
      obtain ⟨K, R, g', hLI, hKe, hRe, hgh, hqβ, hRl⟩ := hrel
      obtain ⟨⟨vk, bk1, bk2, bk3⟩, ⟨vr, br1, br2, br3⟩, hrun, hbel, hlo, _⟩ := id hLI.wi
      have hBB := hLI.gap
      obtain ⟨ak, ck, rfl⟩ := bk2.sli
      have k0 := bk1.cell 0; have kz := bk1.lt; have r0 := br1.cell 0; have rz := br1.lt; have x0 := hBB.cell 0; have x1 := hBB.cell 1; have xz := hBB.lt
      have kf := bk1.free; have rf := br1.free
      simp at k0 r0 x0 x1
      have hKlen : K.length ≤ 1000000 := by
        have := congrArg List.length hKe
        rw [List.length_append] at this
        omega
      have HLI := hidE hLI; have HKE := hidE hKe; have HRE := hidE hRe; have HGH := hidE hgh; have HQβ := hidE hqβ
      have BK2 := hidE bk2; have HRUN := hidE hrun; have BR1 := hidE br1; have BK1 := hidE bk1
      clear hLI hKe hRe hgh bk1 bk2 bk3 br1 hrun hbel hlo hBB hqβ
      cases R with
      | nil =>
        obtain ⟨a0, c0, rfl⟩ := br2.sli
        clear br2 br3
        gi_wp2_with fail
        refine wpIn_mono (Q := fun e a' w' => e = Exit.normal ∧ w' = wr.drew ∧ ∃ v14 v15 v16 v17 v18 v19 v20 v21 v22 v23 v24 : Value, a' = { tmps := #[u0, u1, u2, u3, u4, .pointer (some ⟨w.heap.size, 0, none⟩), .pointer (some ⟨w.heap.size + 1, 0, none⟩), .pointer (some ⟨Bx, 0, none⟩), u8, u9, u10, u11, u12, u13, v14, v15, v16, v17, v18, v19, v20, v21, v22, v23, v24, .bool false, u26, u27, u28, u29, u30, u31, u32, u33, u34, u35, u36, u37, u38, u39, u40, u41, u42, u43, u44, u45, u46, u47, u48, u49, u50, u51, u52], defers := [] }) ?_ ?_
        · gi_region <;> exact ⟨rfl, rfl, _, _, _, _, _, _, _, _, _, _, _, rfl⟩
        · rintro _ _ _ ⟨rfl, rfl, v14, v15, v16, v17, v18, v19, v20, v21, v22, v23, v24, rfl⟩
          gi_wp2
          refine ⟨g', ?_, HLI.out.bel.trans (Below.refl _ _).drew, fun k q1 q2 q3 => HLI.out.st k (by omega) q2 q3, fun b' k' e => ?_⟩
          · show WI w β w.heap.size (w.heap.size + 1) q b cur (woF l (pre ++ [(y1, y2)])).1 (woF l (pre ++ [(y1, y2)])).2 g' wr.drew
            have h1 := (HLI.out.past HLC.out (w' := wr.drew) (Below.refl _ _).drew).wi
            have hk := HKE.out; have hr := HRE.out
            rw [show (cutW (y1, y2) []).1 = [] from rfl, List.append_nil] at hk; rw [show (cutW (y1, y2) []).2 = [] from rfl] at hr
            rw [HKF.out] at hk; rw [HRF.out] at hr
            rw [← hk, ← hr]
            exact h1
          · rcases HLI.out.gg with e2 | ⟨b2, k2, e2, e3⟩
            · rw [e2] at e; exact .inr ⟨k', e⟩
            · rw [e2] at e; cases e; exact .inl e3
      | cons x r =>
        rcases br2 with ⟨e, _⟩ | ⟨o, cp, cu, rfl, q1, q2, q3, q4, q5⟩
        · cases e
        obtain ⟨c0, c1⟩ := q5 0 (by simp)
        have cz := q4.lt; have cf := q4.free
        obtain ⟨x0', x1'⟩ := x
        simp at c0 c1
        have HQ4 := hidE q4; have HQ5 := hidE q5
        have hrl : r.length + 1 ≤ cp := by simpa using q2
        have hRR : r.length + 1 ≤ 1000000 := by simpa using hRl
        clear q4 q5 q2 br3
        by_cases hx : x0' < y2
        · have d1 : decide (x0' < y2) = true := decide_eq_true hx
          have hβq := HQβ.out (by simp)
          have hbq := RV.type_ne HQ4.out HRUN.out
          have HCB := hidE (cutW_rb (g := (y1, y2)) (x := (x0', x1')) (r := r) hx)
          have HHD := hidE (hdW_rb (x := (x0', x1')) (r := r) hx)
          have HBC := hidE (fun w' hB hC => behind_c (cap := cp) (o := o) (q := q) (cur := cu) (x0', x1') r y2 w' hrl q3 hB hC)
          gi_wp2_with fail
          refine wpIn_mono (Q := fun e a' w' => e = Exit.normal ∧ w' = wr.drew ∧ ∃ v14 v15 v16 v17 v18 v19 v20 v21 v22 v23 v24 : Value, a' = { tmps := #[u0, u1, u2, u3, u4, .pointer (some ⟨w.heap.size, 0, none⟩), .pointer (some ⟨w.heap.size + 1, 0, none⟩), .pointer (some ⟨Bx, 0, none⟩), u8, u9, u10, u11, u12, u13, v14, v15, v16, v17, v18, v19, v20, v21, v22, v23, v24, .bool true, u26, u27, u28, u29, u30, u31, u32, u33, u34, u35, u36, u37, u38, u39, u40, u41, u42, u43, u44, u45, u46, u47, u48, u49, u50, u51, u52], defers := [] }) ?_ ?_
          · gi_region <;> exact ⟨rfl, rfl, _, _, _, _, _, _, _, _, _, _, _, rfl⟩
          · rintro _ _ _ ⟨rfl, rfl, v14, v15, v16, v17, v18, v19, v20, v21, v22, v23, v24, rfl⟩
            by_cases hk : x0' < y1
            · have d2 : decide (x0' < y1) = true := decide_eq_true hk
              obtain ⟨M, hM⟩ : ∃ M, M = min x1' y1 := ⟨_, rfl⟩
              have hm1 : (if y1 < x1' then y1 else x1') = M := by rw [hM]; split <;> omega
              have hm2 : min x1' y1 = M := hM.symm
              have HCB2 := hidE (show cutW (y1, y2) ((x0', x1') :: r) = ([(x0', M)] ++ (cutW (y1, y2) (rbW (x0', x1') r y2)).1, (cutW (y1, y2) (rbW (x0', x1') r y2)).2) by rw [HCB.out, if_pos hk, hm2])
              clear hM HCB
              gi_wp2_with (gi_at_builtin; refine wpListIn_append_C _ rfl (.tmp 34) (.tmp 43) rfl (.slice ak K.length ck) K g' rfl (BK2.out.keep (by simp; omega) (fun b' k' e => (keptA (by have := (HLI.out.own b' k' e).2.2; simp; omega) _).trans (keptA (HLI.out.own b' k' e).2.2 _))) ⟨_, 0, none⟩ 1 (x0', M) rfl (newW_at _ #[.int .i64 x0', .int .i64 M] 24 _ (by simp)) hKlen ?_; intro v6 w6 k6 ho6 hg6 hk6; obtain ⟨a6, c6, rfl⟩ := ho6.sli; have HO6 := hidE ho6; have HG6 := hidE hg6; have HK6 := hidE hk6; clear ho6 hg6 hk6; have h16 : Below wr.heap.size wr (((wr.alloc (Obj.cells #[.int .i64 x0', .int .i64 x1'] 24)).alloc (Obj.cells #[.int .i64 x0', .int .i64 M] 24)).drew) := (((Below.refl _ _).alloc (Nat.le_refl _) _).alloc (by simp) _).drew; have HL6 := hidE (HLI.out.past HLC.out h16); have BP6 : Blk w6 w.heap.size #[.slice ak K.length ck] 31 := (HG6.out.block _ (Nat.lt_of_lt_of_le BK1.out.lt h16.size) (fun e => by have := (HL6.out.far HLC.out _ e.symm).1; omega)).trans (BK1.out.past h16); have HB16 := hidE h16; clear h16; have g6 := BP6.cell 0; have g7 := BP6.free; have g8 := BP6.lt; simp at g6; have BR6 : Blk w6 (w.heap.size + 1) #[.slice (some ⟨q, o, none⟩) (r.length + 1) cp] 31 := (HG6.out.block _ (Nat.lt_of_lt_of_le BR1.out.lt HB16.out.size) (fun e => by have := (HL6.out.far HLC.out _ e.symm).1; omega)).trans (BR1.out.past HB16.out); have BX6 : Blk w6 Bx #[.int .i64 y1, .int .i64 y2] 24 := (HG6.out.block _ (Nat.lt_of_lt_of_le HLI.out.gap.lt HB16.out.size) (fun e => by have := (HL6.out.far HLC.out _ e.symm).2.1; omega)).trans (HLI.out.gap.past HB16.out); have r6 := BR6.cell 0; have r7 := BR6.lt; have x6 := BX6.cell 1; have x7 := BX6.lt; simp at r6 x6; have hp12 : w.heap.size + 1 ≠ w.heap.size := (by omega); have hpx : Bx ≠ w.heap.size := (by have := HLC.out.lo; omega); clear BP6 BR6 BX6 k0 kz r0 rz x0 x1 xz kf rf c0 c1 cz cf)
              obtain ⟨w7, hw7⟩ : ∃ w7, w7 = w6.setCell ⟨w.heap.size, 0, none⟩ (.slice a6 (K ++ [(x0', M)]).length c6) := ⟨_, rfl⟩
              have HL7 := hidE (HL6.out.app HLC.out HO6.out HG6.out HK6.out)
              have hkeep : ∀ k, k ≤ w.heap.size + 1 → k ≠ w.heap.size → w7.heap[k]? = wr.heap[k]? := fun k k1 k2 => by
                rw [hw7]; exact (HL6.out.app_keep HLC.out _ HG6.out k k1 k2).trans (HB16.out.block k (by have := BR1.out.lt; omega))
              rw [← hw7] at HL7
              rw [List.length_append, List.length_singleton] at hw7
              rw [← hw7]
              clear hw7 HL6 HO6 HG6 HK6 HB16 g6 g7 g8 r6 r7 x6 x7 hm1 hm2
              have HQ47 := hidE (show Blk w7 q cu 24 from (hkeep q (by omega) (by omega)).trans HQ4.out)
              have HQ57 := hidE (HQ5.out.same (hkeep q (by omega) (by omega)))
              have HBR7 := hidE (show Blk w7 (w.heap.size + 1) #[.slice (some ⟨q, o, none⟩) (r.length + 1) cp] 31 from (hkeep _ (by omega) (by omega)).trans BR1.out)
              refine ⟨trivial, rfl, (CallsIn.inRound lp (callsIn_wide.2 (HBC.out _ HQ47.out HQ57.out))).mono ?_⟩
              rintro e w8 ⟨v8, rfl, hv8, ho8, hg8⟩
              obtain ⟨a8, c8, rfl⟩ := hv8.sli
              have BR8 : Blk w8 (w.heap.size + 1) #[.slice (some ⟨q, o, none⟩) (r.length + 1) cp] 31 := (hg8.block _ HBR7.out.lt (fun e => by cases e; omega)).trans HBR7.out
              have HL8 := hidE (HL7.out.cut HLC.out hβq hbq hv8 ho8 hg8)
              have t0 := BR8.cell 0; have tz := BR8.lt; have tf := BR8.free
              simp at t0
              clear hv8 ho8 hg8 BR8 hkeep HQ47 HQ57 HBR7 HBC
              gi_wp2
              gi_roundg (2 * (rbW (x0', x1') r y2).length + hdW y2 (rbW (x0', x1') r y2))
              case measure => have := HHD.out; have := HGH.out; omega
              case rel => exact ⟨K ++ [(x0', M)], rbW (x0', x1') r y2, some k6, HL8.out, by have h := HKE.out; rw [HCB2.out] at h; simpa [List.append_assoc] using h, by have h := HRE.out; rw [HCB2.out] at h; exact h, Nat.le_refl _, fun _ => hβq, by have h1 := rbW_len (x0', x1') r y2; omega⟩
            · have d2 : decide (x0' < y1) = false := decide_eq_false hk
              have HCB2 := hidE (show cutW (y1, y2) ((x0', x1') :: r) = ([] ++ (cutW (y1, y2) (rbW (x0', x1') r y2)).1, (cutW (y1, y2) (rbW (x0', x1') r y2)).2) by rw [HCB.out, if_neg hk])
              clear HCB
              gi_wp2_with fail
              obtain ⟨w7, hw7⟩ : ∃ w7, w7 = (wr.alloc (Obj.cells #[.int .i64 x0', .int .i64 x1'] 24)).drew := ⟨_, rfl⟩
              have hb7 : Below wr.heap.size wr w7 := by rw [hw7]; exact ((Below.refl _ _).alloc (Nat.le_refl _) _).drew
              have HL7 := hidE (HLI.out.past HLC.out hb7)
              have hkeep : ∀ k, k ≤ w.heap.size + 1 → k ≠ w.heap.size → w7.heap[k]? = wr.heap[k]? := fun k k1 k2 => hb7.block k (by have := BR1.out.lt; omega)
              rw [← hw7]
              clear hw7 hb7 k0 kz r0 rz x0 x1 xz kf rf c0 c1 cz cf
              have HQ47 := hidE (show Blk w7 q cu 24 from (hkeep q (by omega) (by omega)).trans HQ4.out)
              have HQ57 := hidE (HQ5.out.same (hkeep q (by omega) (by omega)))
              have HBR7 := hidE (show Blk w7 (w.heap.size + 1) #[.slice (some ⟨q, o, none⟩) (r.length + 1) cp] 31 from (hkeep _ (by omega) (by omega)).trans BR1.out)
              refine ⟨trivial, rfl, (CallsIn.inRound lp (callsIn_wide.2 (HBC.out _ HQ47.out HQ57.out))).mono ?_⟩
              rintro e w8 ⟨v8, rfl, hv8, ho8, hg8⟩
              obtain ⟨a8, c8, rfl⟩ := hv8.sli
              have BR8 : Blk w8 (w.heap.size + 1) #[.slice (some ⟨q, o, none⟩) (r.length + 1) cp] 31 := (hg8.block _ HBR7.out.lt (fun e => by cases e; omega)).trans HBR7.out
              have HL8 := hidE (HL7.out.cut HLC.out hβq hbq hv8 ho8 hg8)
              have t0 := BR8.cell 0; have tz := BR8.lt; have tf := BR8.free
              simp at t0
              clear hv8 ho8 hg8 BR8 hkeep HQ47 HQ57 HBR7 HBC
              gi_wp2
              gi_roundg (2 * (rbW (x0', x1') r y2).length + hdW y2 (rbW (x0', x1') r y2))
              case measure => have := HHD.out; have := HGH.out; omega
              case rel => exact ⟨K, rbW (x0', x1') r y2, g', HL8.out, by have h := HKE.out; rw [HCB2.out] at h; simpa [List.append_assoc] using h, by have h := HRE.out; rw [HCB2.out] at h; exact h, Nat.le_refl _, fun _ => hβq, by have h1 := rbW_len (x0', x1') r y2; omega⟩
        · have d1 : decide (x0' < y2) = false := decide_eq_false hx
          gi_wp2_with fail
          refine wpIn_mono (Q := fun e a' w' => e = Exit.normal ∧ w' = wr.drew ∧ ∃ v14 v15 v16 v17 v18 v19 v20 v21 v22 v23 v24 : Value, a' = { tmps := #[u0, u1, u2, u3, u4, .pointer (some ⟨w.heap.size, 0, none⟩), .pointer (some ⟨w.heap.size + 1, 0, none⟩), .pointer (some ⟨Bx, 0, none⟩), u8, u9, u10, u11, u12, u13, v14, v15, v16, v17, v18, v19, v20, v21, v22, v23, v24, .bool false, u26, u27, u28, u29, u30, u31, u32, u33, u34, u35, u36, u37, u38, u39, u40, u41, u42, u43, u44, u45, u46, u47, u48, u49, u50, u51, u52], defers := [] }) ?_ ?_
          · gi_region <;> exact ⟨rfl, rfl, _, _, _, _, _, _, _, _, _, _, _, rfl⟩
          · rintro _ _ _ ⟨rfl, rfl, v14, v15, v16, v17, v18, v19, v20, v21, v22, v23, v24, rfl⟩
            gi_wp2
            refine ⟨g', ?_, HLI.out.bel.trans (Below.refl _ _).drew, fun k q1 q2 q3 => HLI.out.st k (by omega) q2 q3, fun b' k' e => ?_⟩
            · show WI w β w.heap.size (w.heap.size + 1) q b cur (woF l (pre ++ [(y1, y2)])).1 (woF l (pre ++ [(y1, y2)])).2 g' wr.drew
              have h1 := (HLI.out.past HLC.out (w' := wr.drew) (Below.refl _ _).drew).wi
              have hk := HKE.out; have hr := HRE.out
              have hx2 : ¬ ((x0', x1') : Wn).1 < ((y1, y2) : Wn).2 := show ¬ x0' < y2 by omega
              rw [cutW_stop hx2, List.append_nil] at hk; rw [cutW_stop hx2] at hr
              rw [HKF.out] at hk; rw [HRF.out] at hr
              rw [← hk, ← hr]
              exact h1
            · rcases HLI.out.gg with e2 | ⟨b2, k2, e2, e3⟩
              · rw [e2] at e; exact .inr ⟨k', e⟩
              · rw [e2] at e; cases e; exact .inl e3
  case done =>
    rintro D g W hD hi hgd hK
    have hlast := HLEN.out gs (List.prefix_refl _)
    have hWz := hi.bel.size
    obtain ⟨⟨vk, bk1, bk2, bk3⟩, ⟨vr, br1, br2, br3⟩, hrun, hbel, hlo, hgb⟩ := hi
    have HRB := hidE (show vr = .slice none 0 0 ∨ ∃ k, vr.ownBlock = some k ∧ k < W.heap.size from by
      rcases br3 with h | h
      · exact .inl h
      · exact .inr ⟨q, h, by omega⟩)
    obtain ⟨ak, ck, rfl⟩ := bk2.sli
    obtain ⟨ar, cr, rfl⟩ := br2.sli
    have HSK := hidE (bk2.src (fun k e e2 => by have := bk3 k e e2; omega))
    have HSR := hidE (br2.src HRB.out)
    have k0 := bk1.cell 0; have kz := bk1.lt; have r0 := br1.cell 0; have rz := br1.lt
    simp at k0 r0
    have hDz : D < W.heap.size := (Array.getElem?_eq_some_iff.1 hK).1
    have HBEL := hidE hbel; have HRUN := hidE hrun; have HKD := hidE hK; have HD := hidE hD; have HGB := hidE hgb
    have HWL := hidE (show woL l gs = (woF l gs).1 ++ (woF l gs).2 from rfl)
    clear bk1 bk2 bk3 br1 br2 br3 hrun hbel hlo hK hD hgd hgb HI0 HSEQ
    generalize (woF l gs).1 = K at *
    generalize (woF l gs).2 = R at *
    go_wp2_with fail
    have h1 : Below W.heap.size W (W.alloc (Obj.cells #[.slice ak K.length ck, .slice ar R.length cr] 31)) := (Below.refl _ _).alloc (Nat.le_refl _) _
    ((with_reducible refine (concatW_c (X := K) (Y := R) _ (Blk.made _ _ _) ?hn1 ?hn2 ?hs1 ?hs2 ?hln).mono ?_)
     case hn1 => exact rfl
     case hn2 => exact rfl
     case hs1 => exact HSK.out.past h1
     case hs2 => exact HSR.out.past h1
     case hln => omega)
    rintro e w5 ⟨v5, rfl, ho5, hb5⟩
    have hK5 : w5.heap[D]? = some (.deferred (some [])) := ((h1.trans (hb5.mono h1.size)).block D hDz).trans HKD.out
    have HB51 := hidE (h1.trans (hb5.mono h1.size))
    have HK5 := hidE hK5; have HRUN5 := hidE (show Blk w5 b cur 56 from ((h1.trans (hb5.mono h1.size)).block b (by have := HBZ.out; omega)).trans HRUN.out)
    have HB5 := hidE (HBEL.out.trans ((h1.trans (hb5.mono h1.size)).mono (show β ≤ W.heap.size by omega)))
    have ho5' : w5.ownsRow (W.heap.size + 1) 24 2 v5 (K ++ R).length (cellsOfV (K ++ R)) := own_base ho5 (by simp)
    obtain ⟨a5, c5, rfl⟩ := own_sli ho5'
    have HO5 := hidE ho5'
    clear ho5 ho5' hb5 h1 hK5 k0 kz r0 rz
    go_wp2
    refine ⟨by simp, .inl ⟨_, _, rfl, run_takeDeferred HK5.out, ?_⟩⟩
    refine ⟨.slice a5 (K ++ R).length c5, by simp [results, Try.results23, go_sem], ?_⟩
    have hbD : b ≠ D := by have := HBZ.out; have := HD.out; omega
    refine ⟨_, rfl, ?_, HB5.out.trans (below_putObj _ _ _ (by have := HD.out; omega)), (World.putObj_heap_other hbD).trans HRUN5.out, fun k cs t t1 t2 hk => ?_⟩
    rotate_left
    · have hkq : k ≠ q := fun e => by subst e; exact (HQT.out cs t hk).elim t1 t2
      have hkz := hk.lt
      exact (World.putObj_heap_other (by have := HD.out; omega)).trans ((HB51.out.block k (by omega)).trans ((HGB.out k hkz hkq).trans hk))
    rw [HWL.out]
    exact own_base (own_kept HO5.out (fun k e => World.putObj_heap_other (fun e2 => by have := own_block HO5.out e; omega))) (by omega)
end Go.Proofs.Ytgflbidagdcfmaa

namespace Go.Proofs.Ytgflbidagdcfmaa
open Go.ChangeShapes Go.WideShapes Go.ChangeAt Go.RowKit
attribute [local irreducible] Go.Calls

set_option maxRecDepth 100000 in
set_option maxHeartbeats 16000000 in
theorem begins_c (F l : List Sg) (a b : Int) (f g : Option Addr) (cF cL : Nat) (w : World) (hF : F.length ≤ 100000) (hl : l.length ≤ 1000000000) (ha : -9223372036854775808 ≤ a ∧ a ≤ 9223372036854775807) (hb : -9223372036854775808 ≤ b ∧ b ≤ 9223372036854775807) (hA : ArgS w f F) (hL : ArgS w g l) :
    Calls Try.prog 8 #[.slice f F.length cF, V a b, .slice g l.length cL] w (VsIs w (begS F a b l).1 (begS F a b l).2) := by
  have HFA := hidE (fun w hA hL => sfault_c F l a b f g cF cL w (by omega) hl ha hb hA hL)
  have HA := hidE hA; have HL := hidE hL
  clear hA hL
  by_cases h0 : slotE F a b l = 0
  · rw [begS_yes h0]
    obtain ⟨z1, z2, z3, z4, z5⟩ := slotE_zero h0
    obtain ⟨y1, y2, y3⟩ := lenE_zero z2
    rw [h0] at HFA
    have HLN := hidE (fun w hL => length_c l g cL w (by omega) hL)
    rw [show lenE l = (lenG l, 0) from Prod.ext y3 z2] at HLN
    have hlb := lenG_bound y2
    have HRK := hidE (runs_ok z1 z3.1)
    have HBG := hidE (fun k => bg_at (runs_ok z1 z3.1) z3.1 y1.1 y2 k)
    have HY2 := hidE y2; have HZ3 := hidE z3; have HZ4 := hidE z4; have HY1 := hidE y1
    have HTK := hidE (fun k => lenG_take_le y2 k)
    obtain ⟨n, hn⟩ : ∃ n, n = lenG l := ⟨_, rfl⟩
    have hn1 : 0 ≤ n ∧ n ≤ 65536 := by omega
    have hn2 : 0 ≤ n ∧ n ≤ 1000000 := by omega
    have HRM := hidE (fun w => room_c a b n w (by omega) (by omega) hn2)
    have HWI := hidE (fun w hA => within_c F a b f cF w (by omega) hA)
    rw [← hn] at HLN
    have HN := hidE hn
    have e0 : ((0 : Int) != 0) = false := rfl
    clear h0 z1 z2 z3 z4 z5 y1 y2 y3 hlb hn
    obtain ⟨p, hp⟩ : ∃ p, p = w.heap.size := ⟨_, rfl⟩
    go_enter Try.func8, Try.ntmps8
    go_upto_region 1 with fail
    obtain ⟨w0, hw0⟩ : ∃ w0, w0 = w.alloc (Obj.cells #[.int .i64 a, .int .i64 b] 24) := ⟨_, rfl⟩
    have B0 : Blk w0 p #[.int .i64 a, .int .i64 b] 24 := by rw [hw0, hp]; exact Blk.made _ _ _
    have hb0 : Below w.heap.size w w0 := by rw [hw0]; (repeat (first | exact Below.refl _ _ | assumption | refine balloc ?_ _ | refine below_drewN ?_ _ | refine bstep (by assumption) ?_ | refine bstep (Past.prop _) ?_ | refine Below.setCell ?_ (by first | exact Nat.le_refl _ | (simp; done) | (simp; omega)) _))
    rw [← hw0, ← hp]
    have HP := hidE hp; have HB0 := hidE hb0; have HB := hidE B0
    clear hw0 hp hb0
    have p0 := B0.cell 0; have p1 := B0.cell 1; have pz := B0.lt
    simp at p0 p1
    clear B0
    go_wp2_with fail
    ((with_reducible refine (HFA.out _ (HA.out.past HB0.out) (HL.out.past HB0.out)).mono ?_); rintro e w1 ⟨rfl, hb1⟩)
    have HB1 := hidE (HB0.out.trans (hb1.mono HB0.out.size)); have HP1 := hidE (HB.out.past hb1)
    clear hb1 p0 p1 pz HB HB0
    go_wp2_with fail
    ((with_reducible refine (HLN.out _ (HL.out.past HB1.out)).mono ?_); rintro e w2 ⟨rfl, hb2⟩)
    have HB2 := hidE (HB1.out.trans (hb2.mono HB1.out.size)); have HP2 := hidE (HP1.out.past hb2)
    have p0 := HP2.out.cell 0; have p1 := HP2.out.cell 1; have pz := HP2.out.lt
    simp at p0 p1
    clear hb2 HB1 HP1
    go_upto_region 5 with fail
    have HWR := hidE (fun (x : Past w2) => HRM.out x.1)
    have HWW := hidE (fun (x : Past w2) => HWI.out x.1 (HA.out.past (HB2.out.trans (x.2.mono HB2.out.size))))
    refine wp_region_J 6 [] (nthR [detR (V a b), detR (.int .i64 n), ownR w2.heap.size 24 2 (roomL a b n).length (cellsOfV (roomL a b n)), detR (.slice f F.length cF), detR (V a b), ownR w2.heap.size 56 3 (runsR F a b).length (cellsOfS (runsR F a b))]) (fun _ => false) (by kernel_rfl) (by decide) (by kernel_rfl) (stab_nth (by intro r hr; simp only [List.mem_cons, List.not_mem_nil, or_false] at hr; rcases hr with rfl | rfl | rfl | rfl | rfl | rfl <;> first | exact stab_det _ | exact stab_own _ _ _ _ _)) ?_ ?_ ?_
    · intro i o hi ho
      match i, hi with
      | 0, _ =>
        obtain rfl := Option.some.inj ho
        intro u x hd
        have hc := Past.cell x
        simp [go_sem, gives, frm, Act.put, nthR, detR, Region.wanted, Below.refl, hc, p0, p1, pz]
      | 1, _ =>
        obtain rfl := Option.some.inj ho
        intro u x hd
        have hc := Past.cell x
        simp [go_sem, gives, frm, Act.put, nthR, detR, Region.wanted, Below.refl]
      | 2, _ =>
        obtain rfl := Option.some.inj ho
        intro u x hd
        have hc := Past.cell x
        have d0 := hd 0 (by decide) (by kernel_rfl)
        have d1 := hd 1 (by decide) (by kernel_rfl)
        simp only [nthR, detR, List.getD_cons_zero, List.getD_cons_succ] at d0 d1
        simp [go_sem, gives, frm, Act.put, nthR, Region.wanted, d0, d1]
        (with_reducible refine (HWR.out x).mono ?_); rintro e w3 ⟨v, rfl, h3, hb3⟩; obtain ⟨av, cv, rfl⟩ := own_sli h3; exact ⟨_, rfl, hb3, ⟨av, _, cv, rfl, Nat.le_trans (Past.prop x).size hb3.size, own_base h3 (Past.prop x).size⟩⟩
      | 3, _ =>
        obtain rfl := Option.some.inj ho
        intro u x hd
        have hc := Past.cell x
        simp [go_sem, gives, frm, Act.put, nthR, detR, Region.wanted, Below.refl]
      | 4, _ =>
        obtain rfl := Option.some.inj ho
        intro u x hd
        have hc := Past.cell x
        simp [go_sem, gives, frm, Act.put, nthR, detR, Region.wanted, Below.refl, hc, p0, p1, pz]
      | 5, _ =>
        obtain rfl := Option.some.inj ho
        intro u x hd
        have hc := Past.cell x
        have d3 := hd 3 (by decide) (by kernel_rfl)
        have d4 := hd 4 (by decide) (by kernel_rfl)
        simp only [nthR, detR, List.getD_cons_zero, List.getD_cons_succ] at d3 d4
        simp [go_sem, gives, frm, Act.put, nthR, Region.wanted, d3, d4]
        (with_reducible refine (HWW.out x).mono ?_); rintro e w3 ⟨v, rfl, h3, hb3⟩; obtain ⟨av, cv, rfl⟩ := own_sli h3; exact ⟨_, rfl, hb3, ⟨av, _, cv, rfl, Nat.le_trans (Past.prop x).size hb3.size, own_base h3 (Past.prop x).size⟩⟩
      | i + 6, h => exact absurd h (by omega)
    · intro i o hx ho
      simp at hx
    · intro u x9 hu hne
      have g2 : ownR w2.heap.size 24 2 (roomL a b n).length (cellsOfV (roomL a b n)) (u 2) x9.1 := hu 2 (by decide)
      have g5 : ownR w2.heap.size 56 3 (runsR F a b).length (cellsOfS (runsR F a b)) (u 5) x9.1 := hu 5 (by decide)
      obtain ⟨av2, n2, cv2, e2, hz2, o2⟩ := g2
      obtain ⟨av5, n5, cv5, e5, _, o5⟩ := g5
      have e0' : u 0 = V a b := hu 0 (by decide)
      have e1' : u 1 = .int .i64 n := hu 1 (by decide)
      have e3' : u 3 = .slice f F.length cF := hu 3 (by decide)
      have e4' : u 4 = V a b := hu 4 (by decide)
      simp only [frm, List.take, Act.put, e0', e1', e2, e3', e4', e5]
      obtain ⟨w3, hw3⟩ : ∃ w3, w3 = x9.1 := ⟨_, rfl⟩
      have hx9 := Past.prop x9
      rw [← hw3] at o2 o5 hx9 hz2
      rw [← hw3]
      have HB3 := hidE (HB2.out.trans (hx9.mono HB2.out.size)); have HZ23 := hidE hz2; have HZ02 := hidE HB2.out.size
      obtain ⟨rb, cur, rfl, hn5, hc5, hm5, hB5, hAR⟩ := runs_own o5 (by rw [runsR_len]; omega)
      have HB5 := hidE hB5; have HAR := hidE hAR; have HO2 := hidE o2; have HN5 := hidE hn5
      have HRN := hidE (show (midR F a b).length + 1 ≤ 1000000 from by have := midR_len F a b; omega)
      have HRL := hidE (show (runsR F a b).length = ((midR F a b).length + 1) + 1 from by rw [runsR_len])
      have hk2 : n2 = (roomL a b n).length := by obtain ⟨a', c', e', _⟩ := sliVs_own o2; cases e'; rfl
      have HK2 := hidE hk2
      clear hw3 hx9 o2 o5 hB5 hAR hn5 hk2 e0' e1' e2 e3' e4' e5 hu p0 p1 pz hz2 HWR HWW
      obtain ⟨R, hR⟩ : ∃ R, R = runsR F a b := ⟨_, rfl⟩
      rw [← hR] at HAR HN5 HRK HRL
      have HRR := hidE hR
      obtain ⟨rm, hrm⟩ : ∃ rm, rm = roomL a b n := ⟨_, rfl⟩
      rw [← hrm] at HO2 HK2
      have HRM2 := hidE hrm
      have HGO := hidE (show begG F a b l = (bgS R rm l).1 from by rw [hR, hrm, HN.out]; rfl)
      have HBGK := hidE (fun k => show CW (bgS R rm (l.take k)).1 ∧ ∀ x ∈ (bgS R rm (l.take k)).1, a ≤ x.1 ∧ x.2 ≤ b from by rw [hR, hrm, HN.out]; exact HBG.out k)
      obtain ⟨N, hN⟩ : ∃ N, N = (midR F a b).length + 1 := ⟨_, rfl⟩
      rw [← hN] at HRK HRN HRL
      clear hR hrm hN HBG
      go_wp2
      go_loopg [11, 13, 36] l.length (fun gh v11 v13 v36 wr => ∃ (k : Nat) (av : Option Addr) (m cv β : Nat), l.length - k ≤ gh ∧ k ≤ l.length ∧ v36 = .int .i64 k ∧ v13 = .int .i64 (lenG (l.take k)) ∧ v11 = .slice av m cv ∧ w2.heap.size ≤ β ∧ β ≤ wr.heap.size ∧ wr.ownsRow β 24 2 (.slice av m cv) (bgS R rm (l.take k)).1.length (cellsOfV (bgS R rm (l.take k)).1) ∧ Blk wr rb cur 56 ∧ Below w2.heap.size w3 wr)
      case atStart => exact ⟨0, av2, n2, cv2, w2.heap.size, Nat.sub_le _ _, Nat.zero_le _, rfl, rfl, rfl, Nat.le_refl _, HZ23.out, HO2.out, HB5.out, Below.refl _ _⟩
      case round =>
        obtain ⟨k, av, m, cv, β, hgh, hk, rfl, rfl, rfl, hβ, hβz, ho, hB, hbel⟩ := hrel
        have HG := hidE hgh; have HO := hidE ho; have HBK := hidE hB; have HBL := hidE hbel
        clear hgh ho hB hbel
        have HWR := hidE (show Below w.heap.size w wr from HB3.out.trans (HBL.out.mono HZ02.out))
        by_cases hlt : k < l.length
        · obtain ⟨lb, off, rfl, hbz, hc⟩ := HL.out (by omega)
          have hbr : lb < wr.heap.size := by have := HWR.out.size; omega
          obtain ⟨e1, e2, e3⟩ := hc.get hlt
          rw [← HWR.out.cell hbz] at e1 e2 e3
          have HX := hidE (HY2.out (l.getD k (0, 0, 0)) (by rw [getD_get _ _ _ hlt]; exact List.getElem_mem hlt))
          have HT := hidE (show l.take (k + 1) = l.take k ++ [l.getD k (0, 0, 0)] from by rw [List.take_succ_eq_append_getElem hlt, getD_get _ _ _ hlt])
          have HS := hidE (lenG_take hlt)
          have hs := HTK.out k
          unfold ats at e1; unfold vls at e2 e3
          generalize l.getD k (0, 0, 0) = s at *
          obtain ⟨d, vm, vc⟩ := s
          have HX := hidE (show 1 ≤ d ∧ d ≤ 4096 from HX.out)
          have HS := hidE (show lenG (l.take (k + 1)) = lenG (l.take k) + d from HS.out)
          simp only at e1 e2 e3
          clear hc
          have hln : lenG l ≤ 65536 := by have := HN.out; omega
          obtain ⟨st, hst⟩ : ∃ st, st = lenG (l.take k) := ⟨_, rfl⟩
          rw [← hst] at hs HS
          rw [← hst]
          have HST := hidE hst
          have hs0 : 0 ≤ st ∧ st ≤ 65536 := by omega
          have HBW := HBGK.out k
          have HGP := hidE (gapK_ok HRK.out (s := st) (v := (vm, vc)) HX.out.1)
          have HSH := hidE (fun pre (hpre : pre <+: gapK R st d (vm, vc) N) => show (woF (bgS R rm (l.take k)).1 pre).1.length + (woF (bgS R rm (l.take k)).1 pre).2.length ≤ 1000000 from by
            have h1 := wo_short HBW.1 HBW.2 (by have := HZ3.out; omega) HGP.out.1 HGP.out.2 hpre
            have := HZ3.out
            omega)
          have HSN := hidE (show bgS R rm (l.take (k + 1)) = bgT R (bgS R rm (l.take k)) (d, (vm, vc)) from by rw [HT.out, bgS_snoc])
          have HSS := hidE (show (bgS R rm (l.take k)).2 = st from by rw [HST.out, bgS_start])
          generalize bgS R rm (l.take k) = bk at *
          have HSEQ := hidE (fun w' (_ : Below (wr.alloc (Obj.cells #[.int .i64 d, .int .i64 vm, .int .i64 vc] 38)).heap.size (wr.alloc (Obj.cells #[.int .i64 d, .int .i64 vm, .int .i64 vc] 38)) w') =>
            gaps_c R st d vm vc (some ⟨rb, 0, none⟩) cv5 β N w' HRL.out (by have := HRN.out; omega) HX.out (by omega) (fun i hi => by have := HRK.out.le hi; have := HZ4.out; omega) (by rw [← HN5.out]; exact hc5) hm5 (fun W => Blk W rb cur 56) (fun W hW => HAR.out W hW))
          rw [← HN5.out] at HSEQ
          clear hst HBW
          have HXB := hidE (Blk.made wr #[.int .i64 d, .int .i64 vm, .int .i64 vc] 38)
          have hza : Below wr.heap.size wr (wr.alloc (Obj.cells #[.int .i64 d, .int .i64 vm, .int .i64 vc] 38)) := (Below.refl _ _).alloc (Nat.le_refl _) _
          have HZA := hidE hza
          have heg : ∀ args w, (callFunc 24 args).run Try.prog w = .ok (.enter 24 args) w := enters_of Try.func24 (by kernel_rfl) rfl
          have HEG := hidE heg
          clear heg
          clear hza
          go_wp2_with fail
          ((with_reducible refine (without_c bk.1 (gapK R st d (vm, vc) N) av m cv β _ _ _ rb cur _ HEG.out (own_below HO.out HZA.out) ?hβ1 ?hB1 HSEQ.out HSH.out).mono ?_)
           case hβ1 => simp; omega
           case hB1 => exact HBK.out.past HZA.out)
          rintro e w4 ⟨v4, rfl, ho4, hb4, hB4, hk4⟩
          have hX4 := hk4 _ _ _ (by decide) (by decide) HXB.out
          have c0 := hX4.cell 0; have cz := hX4.lt
          simp at c0
          obtain ⟨a4, c4, rfl⟩ := own_sli ho4
          have HO4 := hidE ho4; have HB4 := hidE hB4
          have HBL4 := hidE (show Below w2.heap.size w3 w4 from HBL.out.trans ((HZA.out.mono (by have := HBL.out.size; have := HZ23.out; omega)).trans (hb4.mono hβ)))
          have hz4 : wr.heap.size + 1 ≤ w4.heap.size := by have := hb4.size; simpa using this
          have hw : IntKind.i64.wrap (st + d) = st + d := IntWalk.i64_in _ (by have := HX.out; omega)
          have HSN1 := hidE (show (bgS R rm (l.take (k + 1))).1 = woL bk.1 (gapK R st d (vm, vc) N) from by
            rw [HSN.out]; unfold bgT; rw [HSS.out, HRL.out]; rfl)
          clear ho4 hb4 hB4 hk4 hX4 HSEQ HSH HXB HZA e1 e2 e3
          go_wp2
          go_roundg (l.length - (k + 1))
          case measure => have := HG.out; omega
          case rel => exact ⟨k + 1, a4, _, c4, wr.heap.size + 1, Nat.le_refl _, by omega, by go_num, by rw [HS.out], rfl, by have := HBL.out.size; have := HZ23.out; omega, hz4, by rw [HSN1.out]; exact own_base HO4.out (by simp), HB4.out, HBL4.out⟩
        · have hk2 : l.take k = l := by rw [show k = l.length by omega, List.take_length]
          rw [hk2] at HO
          have d3 : decide ((k : Int) < (l.length : Int)) = false := decide_eq_false (by omega)
          have d3' : decide (k < l.length) = false := decide_eq_false hlt
          obtain ⟨av', cv', e', q1, q2, q3⟩ := sliVs_own HO.out
          cases e'
          have HQ := hidE (And.intro q1 (And.intro q2 q3))
          clear hk2 q1 q2 q3
          go_wp2
          go_ret2
          rw [HGO.out]
          exact ⟨_, _, rfl, ⟨_, _, rfl, HQ.out.1, HQ.out.2.1, HQ.out.2.2⟩, HWR.out⟩
  · rw [begS_no h0]
    have d1 : (slotE F a b l != 0) = true := bne_iff_ne.2 h0
    clear h0
    generalize slotE F a b l = er at *
    go_enter Try.func8, Try.ntmps8
    go_wp2_with fail
    ((with_reducible refine (HFA.out _ (HA.out.past (by (repeat (first | exact Below.refl _ _ | assumption | refine balloc ?_ _ | refine below_drewN ?_ _ | refine bstep (by assumption) ?_ | refine bstep (Past.prop _) ?_ | refine Below.setCell ?_ (by first | exact Nat.le_refl _ | (simp; done) | (simp; omega)) _)))) (HL.out.past (by (repeat (first | exact Below.refl _ _ | assumption | refine balloc ?_ _ | refine below_drewN ?_ _ | refine bstep (by assumption) ?_ | refine bstep (Past.prop _) ?_ | refine Below.setCell ?_ (by first | exact Nat.le_refl _ | (simp; done) | (simp; omega)) _))))).mono ?_); rintro e w1 ⟨rfl, hb1⟩)
    go_wp2
    go_ret2
    exact ⟨none, 0, rfl, ⟨none, 0, rfl, Nat.le_refl _, by omega, fun h => by simp at h⟩, by (repeat (first | exact Below.refl _ _ | assumption | refine balloc ?_ _ | refine below_drewN ?_ _ | refine bstep (by assumption) ?_ | refine bstep (Past.prop _) ?_ | refine Below.setCell ?_ (by first | exact Nat.le_refl _ | (simp; done) | (simp; omega)) _))⟩
end Go.Proofs.Ytgflbidagdcfmaa

namespace Go.Proofs.Ytgflbidagdcfmaa
open Go.ChangeShapes Go.WideShapes Go.ChangeAt Go.RowKit Go.Shelf
attribute [local irreducible] Go.Calls
attribute [local go_sem] Oper.semAt_some

theorem from_cl (x0 x1 : Int) (w : World) (h : -9223372036854775807 ≤ x1 ∧ x1 ≤ 9223372036854775807) : Calls Try.prog 43 #[V x0 x1] w fun e w' => e = .returned (.int .i64 x0) ∧ Below w.heap.size w w' := by
  have hw : IntKind.i64.wrap (x1 - 1) = x1 - 1 := IntWalk.i64_in _ (by omega)
  go_enter Try.func43, Try.ntmps43
  go_wp2
  go_ret
  exact ⟨rfl, by (repeat (first | exact Below.refl _ _ | assumption | refine balloc ?_ _ | refine below_drewN ?_ _ | refine bstep (by assumption) ?_ | refine bstep (Past.prop _) ?_ | refine Below.setCell ?_ (by first | exact Nat.le_refl _ | (simp; done) | (simp; omega)) _))⟩
theorem last_cl (x0 x1 : Int) (w : World) (h : -9223372036854775807 ≤ x1 ∧ x1 ≤ 9223372036854775807) : Calls Try.prog 45 #[V x0 x1] w fun e w' => e = .returned (.int .i64 (x1 - 1)) ∧ Below w.heap.size w w' := by
  have hw : IntKind.i64.wrap (x1 - 1) = x1 - 1 := IntWalk.i64_in _ (by omega)
  go_enter Try.func45, Try.ntmps45
  go_wp2
  go_ret
  exact ⟨rfl, by (repeat (first | exact Below.refl _ _ | assumption | refine balloc ?_ _ | refine below_drewN ?_ _ | refine bstep (by assumption) ?_ | refine bstep (Past.prop _) ?_ | refine Below.setCell ?_ (by first | exact Nat.le_refl _ | (simp; done) | (simp; omega)) _))⟩
theorem all_f (a : Option Addr) (n c : Nat) (w : World) : Calls Try.prog 42 #[.slice a n c] w fun e w' => ∃ p, e = .returned (.func (.func 64) #[] #[.pointer (some ⟨p, 0, none⟩)]) ∧ Blk w' p #[.slice a n c] 31 ∧ Below w.heap.size w w' := by
  go_enter Try.func42, Try.ntmps42
  go_wp2
  go_ret
  exact ⟨_, rfl, Blk.made _ _ _, by (repeat (first | exact Below.refl _ _ | assumption | refine balloc ?_ _ | refine below_drewN ?_ _ | refine bstep (by assumption) ?_ | refine bstep (Past.prop _) ?_ | refine Below.setCell ?_ (by first | exact Nat.le_refl _ | (simp; done) | (simp; omega)) _))⟩
theorem back_f (a : Option Addr) (n c : Nat) (w : World) : Calls Try.prog 44 #[.slice a n c] w fun e w' => ∃ p, e = .returned (.func (.func 65) #[] #[.pointer (some ⟨p, 0, none⟩)]) ∧ Blk w' p #[.slice a n c] 31 ∧ Below w.heap.size w w' := by
  go_enter Try.func44, Try.ntmps44
  go_wp2
  go_ret
  exact ⟨_, rfl, Blk.made _ _ _, by (repeat (first | exact Below.refl _ _ | assumption | refine balloc ?_ _ | refine below_drewN ?_ _ | refine bstep (by assumption) ?_ | refine bstep (Past.prop _) ?_ | refine Below.setCell ?_ (by first | exact Nat.le_refl _ | (simp; done) | (simp; omega)) _))⟩
/-- What outermost says. -/
def fstS (gf : Wn → Int) : List (Nat × Wn) → Int × Int
  | [] => (0, 210)
  | x :: _ => (gf x.2, 0)
def outS (er : Int) (S : List (Nat × Wn)) (gf : Wn → Int) : Int × Int := if er ≠ 0 then (0, er) else fstS gf S
/-- In a round that returns. -/
def OuX (w : World) (gf : Wn → Int) (pre : List (Nat × Wn)) (W : World) : Prop := ∃ x, pre = [x] ∧ Below w.heap.size w W ∧ Blk W (w.heap.size + 1) #[.int .i64 (gf x.2)] 2 ∧ Blk W (w.heap.size + 1 + 1) #[.int .i64 0] 32
set_option maxRecDepth 100000 in
set_option maxHeartbeats 16000000 in
theorem outermost_c (S : List (Nat × Wn)) (gf : Wn → Int) (fo it : Nat) (lb : Array Value) (er : Int) (K : World → Prop) (w : World)
    (hof : ∀ (x : Wn) w, (∃ i, (i, x) ∈ S) → Calls Try.prog fo #[V x.1 x.2] w fun e w' => e = .returned (.int .i64 (gf x)) ∧ Below w.heap.size w w')
    (eo : ∀ args w, (callFunc fo args).run Try.prog w = .ok (.enter fo args) w) (eg : ∀ args w, (callFunc it args).run Try.prog w = .ok (.enter it args) w)
    (hK : ∀ W, Below w.heap.size w W → K W) (hseq : er = 0 → ∀ w', Below w.heap.size w w' → SeqX Try.prog it #[] lb encA w.heap.size K S w') :
    Calls Try.prog 41 #[.func (.func it) #[] lb, .int .i64 er, .func (.func fo) #[] #[]] w fun e w' => e = .returned (IE (outS er S gf)) ∧ Below w.heap.size w w' := by
  have HOF := hidE hof; have HK := hidE hK; have HSEQ := hidE hseq
  clear hof hK hseq
  by_cases h0 : er = 0
  · subst h0
    have HE := hidE (show outS 0 S gf = fstS gf S from rfl)
    rw [HE.out]
    have HSQ := hidE (HSEQ.out rfl)
    clear HSEQ HE
    refine (callsIn_wide (n := 0)).1 (callsIn_of_wp_marks Try.func41 rfl trivial ((wpIn_wide (n := 0)).2 ?_))
    simp only [Try.ntmps41, List.size_toArray, List.length_cons, List.length_nil, Nat.reduceAdd, Nat.reduceSub, Array.replicate_succ, Array.replicate_zero, List.push_toArray, List.append_toArray, List.nil_append, List.cons_append]
    go_wp2
    obtain ⟨w2, hw2⟩ : ∃ w2, w2 = ((w.alloc (Obj.cells #[.func (.func fo) #[] #[]] 92)).alloc (Obj.cells #[.int .i64 0] 2)).alloc (Obj.cells #[.int .i64 0] 32) := ⟨_, rfl⟩
    have hz2 : w2.heap.size = w.heap.size + 3 := by rw [hw2]; simp
    have hb2 : Below w.heap.size w w2 := by rw [hw2]; (repeat (first | exact Below.refl _ _ | assumption | refine balloc ?_ _ | refine below_drewN ?_ _ | refine bstep (by assumption) ?_ | refine bstep (Past.prop _) ?_ | refine Below.setCell ?_ (by first | exact Nat.le_refl _ | (simp; done) | (simp; omega)) _))
    have B5 : Blk w2 w.heap.size #[.func (.func fo) #[] #[]] 92 := by rw [hw2]; exact ((Blk.made _ _ _).alloc _).alloc _
    have B6 : Blk w2 (w.heap.size + 1) #[.int .i64 0] 2 := by rw [hw2]; exact (Blk.made_at _ _ _ _ (by simp)).alloc _
    have B7 : Blk w2 (w.heap.size + 1 + 1) #[.int .i64 0] 32 := by rw [hw2]; exact Blk.made_at _ _ _ _ (by simp)
    rw [← hw2]
    have HB2 := hidE hb2
    have HI0 := hidE (show Below w.heap.size w w2 ∧ Blk w2 w.heap.size #[.func (.func fo) #[] #[]] 92 ∧ Blk w2 (w.heap.size + 1) #[.int .i64 0] 2 ∧ Blk w2 (w.heap.size + 1 + 1) #[.int .i64 0] 32 from ⟨hb2, B5, B6, B7⟩)
    clear hw2 B5 B6 B7
    refine wp_rangeFunc_X (n₀ := w.heap.size) (S := S) (K := K) rfl eg (by omega) (HSQ.out _ hb2) (fun _ => rfl)
      (fun pre g W => pre = [] ∧ g = none ∧ Below w.heap.size w W ∧ Blk W w.heap.size #[.func (.func fo) #[] #[]] 92 ∧ Blk W (w.heap.size + 1) #[.int .i64 0] 2 ∧ Blk W (w.heap.size + 1 + 1) #[.int .i64 0] 32)
      (fun s g A B h hb _ => ⟨h.1, h.2.1, h.2.2.1.trans (hb.mono (by omega)), h.2.2.2.1.below hb (by omega), h.2.2.2.2.1.below hb (by omega), h.2.2.2.2.2.below hb (by omega)⟩)
      (fun s g A h b k e => by rw [h.2.1] at e; cases e) (fun s g A h => HK.out _ h.2.2.1) ⟨rfl, rfl, HI0.out⟩ (OuX w gf)
      (fun s A B h hb => by obtain ⟨x, h1, h2, h3, h4⟩ := h; exact ⟨x, h1, h2.trans (hb.mono (by omega)), h3.below hb (by omega), h4.below hb (by omega)⟩)
      (fun y a1 W => ∃ (Bx : Nat) (u0 u1 u2 u3 u4 u8 u10 u11 u12 u13 u14 u15 u16 u17 u18 : Value), w2.heap.size ≤ Bx ∧ Blk W Bx #[.int .i64 y.2.1, .int .i64 y.2.2] 24 ∧ a1 = { tmps := #[u0, u1, u2, u3, u4, .pointer (some ⟨w.heap.size, 0, none⟩), .pointer (some ⟨w.heap.size + 1, 0, none⟩), .pointer (some ⟨w.heap.size + 1 + 1, 0, none⟩), u8, .pointer (some ⟨Bx, 0, none⟩), u10, u11, u12, u13, u14, u15, u16, u17, u18], defers := [] })
      ?hax ?assign ?body ?done ?stop
    case hax =>
      rintro y a1 A lp r o ⟨Bx, u0, u1, u2, u3, u4, u8, u10, u11, u12, u13, u14, u15, u16, u17, u18, h1, h2, h5⟩ hlr
      exact ⟨Bx, _, _, _, _, _, _, _, _, _, _, _, _, _, _, _, h1, (World.putObj_heap_other (fun e => by subst e; rw [show A.heap[Bx]? = _ from h2] at hlr; cases hlr)).trans h2, h5⟩
    case assign =>
      intro lp pre y g W K' hsz hi hK'
      dsimp only [encA]
      gi_wp2
      have hal : Below W.heap.size W (W.alloc (Obj.cells #[.int .i64 y.2.1, .int .i64 y.2.2] 24)) := (Below.refl _ _).alloc (Nat.le_refl _) _
      refine hK' _ _ hal ⟨hi.1, hi.2.1, hi.2.2.1.trans (hal.mono (by omega)), hi.2.2.2.1.past hal, hi.2.2.2.2.1.past hal, hi.2.2.2.2.2.past hal⟩ ⟨W.heap.size, _, _, _, _, _, _, _, _, _, _, _, _, _, _, _, by omega, Blk.made _ _ _, rfl⟩
    case body =>
      rintro lp pre y g a1 W hsz ⟨rfl, rfl, hbl, C5, C6, C7⟩ ⟨Bx, u0, u1, u2, u3, u4, u8, u10, u11, u12, u13, u14, u15, u16, u17, u18, hBx, bX, rfl⟩ hpre
      have hy : ∃ i, (i, y.2) ∈ S := ⟨y.1, hpre.subset (by simp)⟩
      have HCL := hidE (HOF.out y.2 W hy)
      have k0 := C5.cell 0; have kz := C5.lt; have x0 := bX.cell 0; have x1 := bX.cell 1; have xz := bX.lt
      simp at k0 x0 x1
      have H6 := hidE C6; have H7 := hidE C7; have HBL := hidE hbl
      clear C5 C6 C7 hbl hpre hy bX HSQ HI0
      gi_wp2_with fail
      refine ⟨trivial, ?_⟩
      refine ⟨rfl, (CallsIn.inRound lp (callsIn_wide.2 HCL.out)).mono ?_⟩
      rintro e w3 ⟨rfl, hb3⟩
      have D6 := H6.out.past hb3; have D7 := H7.out.past hb3
      have y0 := D6.cell 0; have yz := D6.lt; have yf := D6.free; have z0 := D7.cell 0; have zz := D7.lt; have zf := D7.free
      simp at y0 z0
      have H6' := hidE D6; have H7' := hidE D7; have HB3 := hidE (HBL.out.trans (hb3.mono HBL.out.size)); have HW3 := hidE hb3
      clear D6 D7 hb3 k0 kz x0 x1 xz
      gi_wp2
      refine ⟨⟨y, rfl, ?_, ?_, ?_⟩, fun k h1 h2 h0 => ?_⟩
      · exact (HB3.out.setCell (p := ⟨w.heap.size + 1, 0, none⟩) (show w.heap.size ≤ w.heap.size + 1 by omega) _).setCell (p := ⟨w.heap.size + 1 + 1, 0, none⟩) (show w.heap.size ≤ w.heap.size + 1 + 1 by omega) _
      · simpa using (H6'.out.set 0 (.int .i64 (gf y.2))).other (b := w.heap.size + 1 + 1) (i := 0) (by omega) (.int .i64 0)
      · simpa using (H7'.out.other (b := w.heap.size + 1) (i := 0) (by omega) (.int .i64 (gf y.2))).set 0 (.int .i64 0)
      · exact (keptS (by omega) _).trans ((keptS (by omega) _).trans (HW3.out.block k (by omega)))
    case done =>
      rintro D g W hD ⟨hS, rfl, hbl, C5, C6, C7⟩ hgd hK
      subst hS
      have hDz : D < W.heap.size := (Array.getElem?_eq_some_iff.1 hK).1
      have y0 := C6.cell 0; have yz := C6.lt; have yf := C6.free; have z0 := C7.cell 0; have zz := C7.lt; have zf := C7.free
      simp at y0 z0
      have E6 := (C6.set 0 (.int .i64 0)).other (b := w.heap.size + 1 + 1) (i := 0) (by omega) (.int .i64 210)
      have E7 := (C7.other (b := w.heap.size + 1) (i := 0) (by omega) (.int .i64 0)).set 0 (.int .i64 210)
      have hkf : ((W.setCell ⟨w.heap.size + 1, 0, none⟩ (.int .i64 0)).setCell ⟨w.heap.size + 1 + 1, 0, none⟩ (.int .i64 210)).heap[D]? = some (.deferred (some [])) := (keptS (by omega) _).trans ((keptS (by omega) _).trans hK)
      have r1 := (show ((_ : World).putObj D (.deferred none)).heap[w.heap.size + 1]? = _ from (World.putObj_heap_other (by omega)).trans E6)
      have r2 := (show ((_ : World).putObj D (.deferred none)).heap[w.heap.size + 1 + 1]? = _ from (World.putObj_heap_other (by omega)).trans E7)
      have R1 := hidE (Blk.cell r1 0); have R2 := hidE (Blk.cell r2 0); have HKF := hidE hkf
      have HBF := hidE (show Below w.heap.size w (((W.setCell ⟨w.heap.size + 1, 0, none⟩ (.int .i64 0)).setCell ⟨w.heap.size + 1 + 1, 0, none⟩ (.int .i64 210)).putObj D (.deferred none)) from
        ((hbl.setCell (p := ⟨w.heap.size + 1, 0, none⟩) (show w.heap.size ≤ w.heap.size + 1 by omega) _).setCell (p := ⟨w.heap.size + 1 + 1, 0, none⟩) (show w.heap.size ≤ w.heap.size + 1 + 1 by omega) _).trans (below_putObj _ _ _ (by omega)))
      clear E6 E7 r1 r2 hkf hK hbl HI0 HSQ C5 C6 C7
      go_wp2
      refine ⟨by simp, .inl ⟨_, _, rfl, run_takeDeferred HKF.out, ?_⟩⟩
      have r1 := R1.out; have r2 := R2.out
      simp at r1 r2
      refine ⟨IE (0, 210), by simp [results, Try.results41, go_sem, r1, r2], rfl, HBF.out⟩
    case stop =>
      rintro D pre W hD hpre ⟨x, rfl, hbl, C6, C7⟩ hK
      obtain ⟨S', rfl⟩ : ∃ S', S = x :: S' := by
        obtain ⟨t, ht⟩ := hpre
        exact ⟨t, ht.symm⟩
      have hDz : D < W.heap.size := (Array.getElem?_eq_some_iff.1 hK).1
      have r1 := (show (W.putObj D (.deferred none)).heap[w.heap.size + 1]? = _ from (World.putObj_heap_other (by omega)).trans C6)
      have r2 := (show (W.putObj D (.deferred none)).heap[w.heap.size + 1 + 1]? = _ from (World.putObj_heap_other (by omega)).trans C7)
      have R1 := hidE (Blk.cell r1 0); have R2 := hidE (Blk.cell r2 0); have HKF := hidE hK
      have HBF := hidE (show Below w.heap.size w (W.putObj D (.deferred none)) from hbl.trans (below_putObj _ _ _ (by omega)))
      clear r1 r2 hK hbl HI0 HSQ C6 C7 hpre
      go_wp2
      refine ⟨by simp, .inl ⟨_, _, rfl, run_takeDeferred HKF.out, ?_⟩⟩
      have r1 := R1.out; have r2 := R2.out
      simp at r1 r2
      refine ⟨IE (gf x.2, 0), by simp [results, Try.results41, go_sem, r1, r2], rfl, HBF.out⟩
  · have HE := hidE (show outS er S gf = (0, er) from by unfold outS; rw [if_pos h0])
    have d1 : (er != 0) = true := bne_iff_ne.2 h0
    rw [HE.out]
    clear h0 HSEQ HE
    go_enter Try.func41, Try.ntmps41
    go_wp2
    obtain ⟨w2, hw2⟩ : ∃ w2, w2 = ((w.alloc (Obj.cells #[.func (.func fo) #[] #[]] 92)).alloc (Obj.cells #[.int .i64 0] 2)).alloc (Obj.cells #[.int .i64 er] 32) := ⟨_, rfl⟩
    have hb2 : Below w.heap.size w w2 := by rw [hw2]; (repeat (first | exact Below.refl _ _ | assumption | refine balloc ?_ _ | refine below_drewN ?_ _ | refine bstep (by assumption) ?_ | refine bstep (Past.prop _) ?_ | refine Below.setCell ?_ (by first | exact Nat.le_refl _ | (simp; done) | (simp; omega)) _))
    have B6 : Blk w2 (w.heap.size + 1) #[.int .i64 0] 2 := by rw [hw2]; exact (Blk.made_at _ _ _ _ (by simp)).alloc _
    have B7 : Blk w2 (w.heap.size + 1 + 1) #[.int .i64 er] 32 := by rw [hw2]; exact Blk.made_at _ _ _ _ (by simp)
    rw [← hw2]
    have r1 := B6.cell 0; have r2 := B7.cell 0
    simp at r1 r2
    exact bodyPost_ret (v := IE (0, er)) (by simp [results, Try.results41, go_sem, r1, r2]) rfl ⟨rfl, hb2⟩
/-- The first, the last begin. -/
def earS (F : List Sg) (a b : Int) (l : List Sg) : Int × Int := outS (begS F a b l).2 (mapK (alF (begS F a b l).1) (begS F a b l).1.length) (fun x => x.1)
def latS (F : List Sg) (a b : Int) (l : List Sg) : Int × Int := outS (begS F a b l).2 (mapK (bkF (begS F a b l).1) (begS F a b l).1.length) (fun x => x.2 - 1)
theorem begS_in {F l : List Sg} {a b : Int} {x : Wn} (hx : x ∈ (begS F a b l).1) : -1099511627776 ≤ x.1 ∧ x.2 ≤ 1099511627776 ∧ x.1 < x.2 := by
  by_cases h : slotE F a b l = 0
  · obtain ⟨h1, h2, h3, h4, h5⟩ := slotE_zero h
    have hl := (lenE_zero h2).2.1
    have h6 := begS_is (show (begS F a b l).2 = 0 by rw [begS_err]; exact h)
    have hp := lenG_bound hl
    have hx1 := h6.1.1 x hx
    have q1 := (h6.2 x.1).1 ⟨x, hx, Int.le_refl _, hx1⟩
    have q2 := (h6.2 (x.2 - 1)).1 ⟨x, hx, by omega, by omega⟩
    unfold mayG at q1 q2
    have := (lenE_zero h2).1
    omega
  · rw [begS_no h] at hx; simp at hx
theorem mapK_in {f : Nat → Nat × Wn} {L : List Wn} (hf : ∀ i, i < L.length → (f i).2 ∈ L) {x : Wn} (h : ∃ i, (i, x) ∈ mapK f L.length) : x ∈ L := by
  obtain ⟨i, h⟩ := h
  unfold mapK at h
  obtain ⟨j, hj, e⟩ := List.mem_map.1 h
  have := hf j (List.mem_range.1 hj)
  rw [e] at this
  exact this
theorem getD_in {L : List Wn} {i : Nat} (h : i < L.length) : L.getD i (0, 0) ∈ L := by rw [getD_get _ _ _ h]; exact List.getElem_mem h
set_option maxRecDepth 100000 in
set_option maxHeartbeats 4000000 in
theorem earliest_c (F l : List Sg) (a b : Int) (f g : Option Addr) (cF cL : Nat) (w : World) (hF : F.length ≤ 100000) (hl : l.length ≤ 1000000000) (ha : -9223372036854775808 ≤ a ∧ a ≤ 9223372036854775807) (hb : -9223372036854775808 ≤ b ∧ b ≤ 9223372036854775807) (hA : ArgS w f F) (hL : ArgS w g l) :
    Calls Try.prog 17 #[.slice f F.length cF, V a b, .slice g l.length cL] w fun e w' => e = .returned (IE (earS F a b l)) ∧ Below w.heap.size w w' := by
  have HBG := hidE (fun w hA hL => begins_c F l a b f g cF cL w hF hl ha hb hA hL)
  have HA := hidE hA; have HL := hidE hL
  have HLEN := hidE (begS_len (F := F) (a := a) (b := b) (l := l))
  have HIN := hidE (fun x => begS_in (F := F) (a := a) (b := b) (l := l) (x := x))
  have HE := hidE (show earS F a b l = outS (begS F a b l).2 (mapK (alF (begS F a b l).1) (begS F a b l).1.length) (fun x => x.1) from rfl)
  rw [HE.out]
  clear hA hL HE
  generalize begS F a b l = B at *
  obtain ⟨L, er⟩ := B
  have HLEN := hidE (show (L.length : Int) ≤ 4096 from HLEN.out)
  have HIN := hidE (fun x => show x ∈ L → _ from HIN.out x)
  have HBG := hidE (fun w hA hL => show Calls Try.prog 8 #[.slice f F.length cF, V a b, .slice g l.length cL] w (VsIs w L er) from HBG.out w hA hL)
  show Calls _ _ _ w fun e w' => e = .returned (IE (outS er (mapK (alF L) L.length) (fun x => x.1))) ∧ _
  have HO := hidE (fun p (a1 : Option Addr) (c1 : Nat) W (hB : Blk W p #[.slice a1 L.length c1] 31) (hA1 : ArgVs W a1 L) => outermost_c (mapK (alF L) L.length) (fun x => x.1) 43 64 #[.pointer (some ⟨p, 0, none⟩)] er (fun W => Blk W p #[.slice a1 L.length c1] 31 ∧ ArgVs W a1 L) W
    (fun x w' hx => by
      have hm := HIN.out x (mapK_in (L := L) (f := alF L) (fun i hi => getD_in (by exact hi)) hx)
      exact from_cl x.1 x.2 w' (by omega))
    (enters_of Try.func43 (by kernel_rfl) rfl) (enters_of Try.func64 (by kernel_rfl) rfl) (fun W' hW' => ⟨hB.past hW', hA1.past hW'⟩) (fun _ w' hw' => allIt_c L p a1 L.length c1 W.heap.size w' rfl (by have := HLEN.out; omega)))
  go_enter Try.func17, Try.ntmps17
  go_wp2_with fail
  ((with_reducible refine (HBG.out _ (HA.out.past (by (repeat (first | exact Below.refl _ _ | assumption | refine balloc ?_ _ | refine below_drewN ?_ _ | refine bstep (by assumption) ?_ | refine bstep (Past.prop _) ?_ | refine Below.setCell ?_ (by first | exact Nat.le_refl _ | (simp; done) | (simp; omega)) _)))) (HL.out.past (by (repeat (first | exact Below.refl _ _ | assumption | refine balloc ?_ _ | refine below_drewN ?_ _ | refine bstep (by assumption) ?_ | refine bstep (Past.prop _) ?_ | refine Below.setCell ?_ (by first | exact Nat.le_refl _ | (simp; done) | (simp; omega)) _))))).mono ?_); rintro e w1 ⟨a1, c1, rfl, hs1, hb1⟩)
  obtain ⟨_, _, _, hs4⟩ := sliVs_len hs1
  have HB1 := hidE (show Below w.heap.size w w1 by (repeat (first | exact Below.refl _ _ | assumption | refine balloc ?_ _ | refine below_drewN ?_ _ | refine bstep (by assumption) ?_ | refine bstep (Past.prop _) ?_ | refine Below.setCell ?_ (by first | exact Nat.le_refl _ | (simp; done) | (simp; omega)) _)))
  have HS := hidE hs4
  clear hs1 hs4 hb1
  go_wp2_with fail
  ((with_reducible refine (all_f _ _ _ _).mono ?_); rintro e w2 ⟨p2, rfl, hp2, hb2⟩)
  have HP := hidE hp2; have HB2 := hidE hb2
  clear hp2 hb2
  go_wp2_with fail
  ((with_reducible refine (HO.out p2 a1 c1 _ HP.out (HS.out.past HB2.out)).mono ?_); rintro e w3 ⟨rfl, hb3⟩)
  have HB3 := hidE (bstep hb3 (bstep HB2.out HB1.out))
  clear HO hb3
  generalize hR : outS er (mapK (alF L) L.length) (fun x => x.1) = R at *
  have HR := hidE hR
  clear hR
  go_wp2
  exact bodyPost_ret (v := IE R) (by simp [results, Try.results17, go_sem]) rfl ⟨by rw [← HR.out], HB3.out⟩
set_option maxRecDepth 100000 in
set_option maxHeartbeats 4000000 in
theorem latest_c (F l : List Sg) (a b : Int) (f g : Option Addr) (cF cL : Nat) (w : World) (hF : F.length ≤ 100000) (hl : l.length ≤ 1000000000) (ha : -9223372036854775808 ≤ a ∧ a ≤ 9223372036854775807) (hb : -9223372036854775808 ≤ b ∧ b ≤ 9223372036854775807) (hA : ArgS w f F) (hL : ArgS w g l) :
    Calls Try.prog 18 #[.slice f F.length cF, V a b, .slice g l.length cL] w fun e w' => e = .returned (IE (latS F a b l)) ∧ Below w.heap.size w w' := by
  have HBG := hidE (fun w hA hL => begins_c F l a b f g cF cL w hF hl ha hb hA hL)
  have HA := hidE hA; have HL := hidE hL
  have HLEN := hidE (begS_len (F := F) (a := a) (b := b) (l := l))
  have HIN := hidE (fun x => begS_in (F := F) (a := a) (b := b) (l := l) (x := x))
  have HE := hidE (show latS F a b l = outS (begS F a b l).2 (mapK (bkF (begS F a b l).1) (begS F a b l).1.length) (fun x => x.2 - 1) from rfl)
  rw [HE.out]
  clear hA hL HE
  generalize begS F a b l = B at *
  obtain ⟨L, er⟩ := B
  have HLEN := hidE (show (L.length : Int) ≤ 4096 from HLEN.out)
  have HIN := hidE (fun x => show x ∈ L → _ from HIN.out x)
  have HBG := hidE (fun w hA hL => show Calls Try.prog 8 #[.slice f F.length cF, V a b, .slice g l.length cL] w (VsIs w L er) from HBG.out w hA hL)
  show Calls _ _ _ w fun e w' => e = .returned (IE (outS er (mapK (bkF L) L.length) (fun x => x.2 - 1))) ∧ _
  have HO := hidE (fun p (a1 : Option Addr) (c1 : Nat) W (hB : Blk W p #[.slice a1 L.length c1] 31) (hA1 : ArgVs W a1 L) => outermost_c (mapK (bkF L) L.length) (fun x => x.2 - 1) 45 65 #[.pointer (some ⟨p, 0, none⟩)] er (fun W => Blk W p #[.slice a1 L.length c1] 31 ∧ ArgVs W a1 L) W
    (fun x w' hx => by
      have hm := HIN.out x (mapK_in (L := L) (f := bkF L) (fun i hi => getD_in (by omega)) hx)
      exact last_cl x.1 x.2 w' (by omega))
    (enters_of Try.func45 (by kernel_rfl) rfl) (enters_of Try.func65 (by kernel_rfl) rfl) (fun W' hW' => ⟨hB.past hW', hA1.past hW'⟩) (fun _ w' hw' => backIt_c L p a1 L.length c1 W.heap.size w' rfl (by have := HLEN.out; omega)))
  go_enter Try.func18, Try.ntmps18
  go_wp2_with fail
  ((with_reducible refine (HBG.out _ (HA.out.past (by (repeat (first | exact Below.refl _ _ | assumption | refine balloc ?_ _ | refine below_drewN ?_ _ | refine bstep (by assumption) ?_ | refine bstep (Past.prop _) ?_ | refine Below.setCell ?_ (by first | exact Nat.le_refl _ | (simp; done) | (simp; omega)) _)))) (HL.out.past (by (repeat (first | exact Below.refl _ _ | assumption | refine balloc ?_ _ | refine below_drewN ?_ _ | refine bstep (by assumption) ?_ | refine bstep (Past.prop _) ?_ | refine Below.setCell ?_ (by first | exact Nat.le_refl _ | (simp; done) | (simp; omega)) _))))).mono ?_); rintro e w1 ⟨a1, c1, rfl, hs1, hb1⟩)
  obtain ⟨_, _, _, hs4⟩ := sliVs_len hs1
  have HB1 := hidE (show Below w.heap.size w w1 by (repeat (first | exact Below.refl _ _ | assumption | refine balloc ?_ _ | refine below_drewN ?_ _ | refine bstep (by assumption) ?_ | refine bstep (Past.prop _) ?_ | refine Below.setCell ?_ (by first | exact Nat.le_refl _ | (simp; done) | (simp; omega)) _)))
  have HS := hidE hs4
  clear hs1 hs4 hb1
  go_wp2_with fail
  ((with_reducible refine (back_f _ _ _ _).mono ?_); rintro e w2 ⟨p2, rfl, hp2, hb2⟩)
  have HP := hidE hp2; have HB2 := hidE hb2
  clear hp2 hb2
  go_wp2_with fail
  ((with_reducible refine (HO.out p2 a1 c1 _ HP.out (HS.out.past HB2.out)).mono ?_); rintro e w3 ⟨rfl, hb3⟩)
  have HB3 := hidE (bstep hb3 (bstep HB2.out HB1.out))
  clear HO hb3
  generalize hR : outS er (mapK (bkF L) L.length) (fun x => x.2 - 1) = R at *
  have HR := hidE hR
  clear hR
  go_wp2
  exact bodyPost_ret (v := IE R) (by simp [results, Try.results18, go_sem]) rfl ⟨by rw [← HR.out], HB3.out⟩

end Go.Proofs.Ytgflbidagdcfmaa

namespace Go.Proofs.Ytgflbidagdcfmaa
open Go.ChangeShapes Go.WideShapes Go.ChangeAt Go.RowKit
attribute [local irreducible] Go.Calls

def hsF : List Sg := [(0, (5, 5)), (10, (2, 2)), (12, (5, 5)), (20, (0, 0))]
def hsL : List Sg := [(4, (3, 3))]
def hsM : List Sg := [(4, (3, 3)), (2, (1, 1))]
theorem hs1 : begS hsF 0 30 hsL = ([(0, 7), (12, 17)], 0) := by decide +kernel
theorem hs2 : earS hsF 0 30 hsL = (0, 0) := by decide +kernel
theorem hs3 : latS hsF 0 30 hsL = (16, 0) := by decide +kernel
theorem hs4 : earS hsF 7 30 hsL = (12, 0) := by decide +kernel
theorem hs5 : begS hsF 0 30 hsM = ([(0, 7), (12, 15)], 0) := by decide +kernel
theorem hs6 : lenE hsM = (6, 0) := by decide +kernel
theorem hs7 : earS hsF 7 15 hsL = (0, 210) := by decide +kernel
theorem hs8 : earS hsF 7 7 hsL = (0, 2) := by decide +kernel

theorem slv_c (n : Int) (w : World) : Calls Try.prog 10 #[.int .i64 n] w fun e w' => e = .returned (V n n) ∧ Below w.heap.size w w' := by
  go_enter Try.func10, Try.ntmps10
  go_wp2
  exact bodyPost_ret (v := V n n) (by simp [results, Try.results10, go_sem]) rfl ⟨rfl, by (repeat (first | exact Below.refl _ _ | assumption | refine balloc ?_ _ | refine below_drewN ?_ _ | refine bstep (by assumption) ?_ | refine bstep (Past.prop _) ?_ | refine Below.setCell ?_ (by first | exact Nat.le_refl _ | (simp; done) | (simp; omega)) _))⟩
theorem sliS_mkS {w : World} {p n : Nat} {l : List Sg} {t : TypeId} (hn : n = l.length) (h2 : n ≤ 1000000) (h : Blk w p (cellsOfS l).toArray t) : SliS w (.slice (some ⟨p, 0, none⟩) n n) l := by
  subst hn
  exact ⟨some ⟨p, 0, none⟩, l.length, rfl, Nat.le_refl _, by omega, argS_blk h⟩
theorem sliVs_mk {w : World} {p n : Nat} {l : List Wn} {t : TypeId} (hn : n = l.length) (h2 : n ≤ 1000000) (h : Blk w p (cellsOfV l).toArray t) : SliVs w (.slice (some ⟨p, 0, none⟩) n n) l := by
  subst hn
  refine ⟨some ⟨p, 0, none⟩, l.length, rfl, Nat.le_refl _, by omega, fun _ => ⟨p, 0, rfl, h.lt, fun i hi => ?_⟩⟩
  obtain ⟨g0, g1⟩ := cellsOfV_get l i hi
  rw [Nat.zero_add, h.cell, h.cell, List.getElem?_toArray, List.getElem?_toArray]
  exact ⟨g0, g1⟩
set_option maxRecDepth 100000 in
set_option maxHeartbeats 2000000 in
theorem rsameW_t {w : World} {n1 n2 c1 c2 : Nat} {a1 a2 : Option Addr} {L : List Wn} (h1 : SliVs w (.slice a1 n1 c1) L) (h2 : SliVs w (.slice a2 n2 c2) L) : Calls Try.prog 9 #[.slice a1 n1 c1, .slice a2 n2 c2] w fun e w' => e = .returned (.bool true) ∧ Below w.heap.size w w' := by
  obtain ⟨e1, q1, q2, q3⟩ := sliVs_len h1
  obtain ⟨e2, s1, s2, s3⟩ := sliVs_len h2
  have HQ := hidE q3; have HS := hidE s3
  obtain rfl : n1 = n2 := e1.trans e2.symm
  have HN := hidE e1
  have hn5 : n1 ≤ 9223372036854775807 := by omega
  clear h1 h2 q3 s3 s1 s2 e1 e2 q1 q2
  go_enter Try.func9, Try.ntmps9
  go_wp2
  go_loopg [5] n1 (fun gh v5 wr => ∃ k : Nat, n1 - k ≤ gh ∧ k ≤ n1 ∧ v5 = .int .i64 k ∧ Below w.heap.size w wr)
  case atStart => exact ⟨0, Nat.sub_le _ _, Nat.zero_le _, rfl, by (repeat (first | exact Below.refl _ _ | assumption | refine balloc ?_ _ | refine below_drewN ?_ _ | refine bstep (by assumption) ?_ | refine bstep (Past.prop _) ?_ | refine Below.setCell ?_ (by first | exact Nat.le_refl _ | (simp; done) | (simp; omega)) _))⟩
  case round =>
    obtain ⟨k, hgh, hk, rfl, hb⟩ := hrel
    have HG := hidE hgh; have HB := hidE hb
    clear hgh
    by_cases hlt : k < n1
    · have d1 : decide ((k : Int) < (n1 : Int)) = true := decide_eq_true (by omega)
      have d1' : decide (k < n1) = true := decide_eq_true hlt
      have hkL : k < L.length := by have := HN.out; omega
      obtain ⟨b1, o1, rfl, z1, hc1⟩ := HQ.out (by omega)
      obtain ⟨b2, o2, rfl, z2, hc2⟩ := HS.out (by omega)
      obtain ⟨e0, e1⟩ := hc1 k hkL
      obtain ⟨f0, f1⟩ := hc2 k hkL
      rw [← hb.cell z1] at e0 e1
      rw [← hb.cell z2] at f0 f1
      have hz := hb.size
      have z3 : b1 < wr.heap.size := by omega
      have z4 : b2 < wr.heap.size := by omega
      generalize L.getD k (0, 0) = x at *
      obtain ⟨x0, x1⟩ := x
      simp only at e0 e1 f0 f1
      clear hc1 hc2
      go_wp2
      go_quiet (fail)
      go_wp2
      go_roundg (n1 - (k + 1))
      case measure => have := HG.out; omega
      case rel => exact ⟨k + 1, Nat.le_refl _, by omega, by go_num, by (repeat (first | exact Below.refl _ _ | assumption | refine balloc ?_ _ | refine below_drewN ?_ _ | refine bstep (by assumption) ?_ | refine bstep (Past.prop _) ?_ | refine Below.setCell ?_ (by first | exact Nat.le_refl _ | (simp; done) | (simp; omega)) _))⟩
    · have d1 : decide ((k : Int) < (n1 : Int)) = false := decide_eq_false (by omega)
      have d1' : decide (k < n1) = false := decide_eq_false hlt
      go_wp2
      go_ret
      exact ⟨rfl, HB.out⟩
/-- Is it more than a statement looks at? -/
def grB (n m : Nat) (a b : Int) : Bool := decide (60 < n ∨ 30 < m ∨ (a < b ∧ 150 < b - a ∧ b - a ≤ 4096))
theorem grB_no {n m : Nat} {a b : Int} (h : grB n m a b = false) : n ≤ 60 ∧ m ≤ 30 ∧ (a < b → b - a ≤ 4096 → b - a ≤ 150) := by
  unfold grB at h
  rw [decide_eq_false_iff_not] at h
  omega
set_option maxRecDepth 100000 in
theorem sgreat_c (af al : Option Addr) (n m cF cL : Nat) (a b : Int) (w : World) (ha : -9223372036854775808 ≤ a ∧ a ≤ 9223372036854775807) (hb : -9223372036854775808 ≤ b ∧ b ≤ 9223372036854775807) (hn : n ≤ 9223372036854775807) (hm : m ≤ 9223372036854775807) :
    Calls Try.prog 6 #[.slice af n cF, V a b, .slice al m cL] w fun e w' => e = .returned (.bool (grB n m a b)) ∧ Below w.heap.size w w' := by
  by_cases h1 : 60 < n
  · have e : grB n m a b = true := by unfold grB; exact decide_eq_true (by omega)
    have d1 : decide (60 < (n : Int)) = true := decide_eq_true (by omega)
    have d1' : decide (60 < n) = true := decide_eq_true h1
    have E := hidE e
    clear h1 e
    rw [E.out]
    go_enter Try.func6, Try.ntmps6
    go_wp2
    go_ret
    exact ⟨rfl, by (repeat (first | exact Below.refl _ _ | assumption | refine balloc ?_ _ | refine below_drewN ?_ _ | refine bstep (by assumption) ?_ | refine bstep (Past.prop _) ?_ | refine Below.setCell ?_ (by first | exact Nat.le_refl _ | (simp; done) | (simp; omega)) _))⟩
  have d1 : decide (60 < (n : Int)) = false := decide_eq_false (by omega)
  have d1' : decide (60 < n) = false := decide_eq_false h1
  by_cases h2 : 30 < m
  · have e : grB n m a b = true := by unfold grB; exact decide_eq_true (by omega)
    have d2 : decide (30 < (m : Int)) = true := decide_eq_true (by omega)
    have d2' : decide (30 < m) = true := decide_eq_true h2
    have E := hidE e
    clear h1 h2 e
    rw [E.out]
    go_enter Try.func6, Try.ntmps6
    go_wp2
    go_ret
    exact ⟨rfl, by (repeat (first | exact Below.refl _ _ | assumption | refine balloc ?_ _ | refine below_drewN ?_ _ | refine bstep (by assumption) ?_ | refine bstep (Past.prop _) ?_ | refine Below.setCell ?_ (by first | exact Nat.le_refl _ | (simp; done) | (simp; omega)) _))⟩
  have d2 : decide (30 < (m : Int)) = false := decide_eq_false (by omega)
  have d2' : decide (30 < m) = false := decide_eq_false h2
  by_cases h3 : a < b
  · have d3 : decide (a < b) = true := decide_eq_true h3
    obtain ⟨D, hD⟩ : ∃ D, D = IntKind.i64.wrap (b - a) := ⟨_, rfl⟩
    have hD1 : IntKind.i64.wrap (b - a) = D := hD.symm
    have hD2 : wrap64 (b - a) = D := by rw [← hD1]; exact (IntWalk.i64_left _).symm
    have hE : grB n m a b = (decide (150 < D) && decide (D ≤ 4096)) := by
      unfold grB
      have : D = wrap64 (b - a) := hD2.symm
      unfold wrap64 at this
      rw [← Bool.decide_and, decide_eq_decide]
      constructor
      · rintro (h | h | ⟨_, h4, h5⟩)
        · omega
        · omega
        · omega
      · rintro ⟨h4, h5⟩
        refine .inr (.inr ⟨h3, ?_, ?_⟩) <;> omega
    have E := hidE hE
    clear h1 h2 h3 hE hD
    rw [E.out]
    by_cases h4 : 150 < D
    · have d4 : decide (150 < D) = true := decide_eq_true h4
      go_enter Try.func6, Try.ntmps6
      go_wp2
      go_ret
      exact ⟨by rw [d4]; rfl, by (repeat (first | exact Below.refl _ _ | assumption | refine balloc ?_ _ | refine below_drewN ?_ _ | refine bstep (by assumption) ?_ | refine bstep (Past.prop _) ?_ | refine Below.setCell ?_ (by first | exact Nat.le_refl _ | (simp; done) | (simp; omega)) _))⟩
    · have d4 : decide (150 < D) = false := decide_eq_false h4
      go_enter Try.func6, Try.ntmps6
      go_wp2
      go_ret
      exact ⟨rfl, by (repeat (first | exact Below.refl _ _ | assumption | refine balloc ?_ _ | refine below_drewN ?_ _ | refine bstep (by assumption) ?_ | refine bstep (Past.prop _) ?_ | refine Below.setCell ?_ (by first | exact Nat.le_refl _ | (simp; done) | (simp; omega)) _))⟩
  · have e : grB n m a b = false := by unfold grB; exact decide_eq_false (by omega)
    have d3 : decide (a < b) = false := decide_eq_false h3
    have E := hidE e
    clear h1 h2 h3 e
    rw [E.out]
    go_enter Try.func6, Try.ntmps6
    go_wp2
    go_ret
    exact ⟨rfl, by (repeat (first | exact Below.refl _ _ | assumption | refine balloc ?_ _ | refine below_drewN ?_ _ | refine bstep (by assumption) ?_ | refine bstep (Past.prop _) ?_ | refine Below.setCell ?_ (by first | exact Nat.le_refl _ | (simp; done) | (simp; omega)) _))⟩
theorem begins_eq {F l : List Sg} {a b er : Int} {L : List Wn} {f g : Option Addr} {n m cF cL : Nat} {w : World} (h1 : SliS w (.slice f n cF) F) (h2 : SliS w (.slice g m cL) l) (hn : n ≤ 100000) (hm : m ≤ 1000000000) (ha : -9223372036854775808 ≤ a ∧ a ≤ 9223372036854775807) (hb : -9223372036854775808 ≤ b ∧ b ≤ 9223372036854775807) (he : begS F a b l = (L, er)) :
    Calls Try.prog 8 #[.slice f n cF, V a b, .slice g m cL] w (VsIs w L er) := by
  obtain ⟨a', c', e, q1, q2, q3⟩ := h1
  obtain ⟨a'', c'', e2, s1, s2, s3⟩ := h2
  cases e; cases e2
  have := begins_c F l a b f g cF cL w hn hm ha hb q3 s3
  rw [he] at this
  exact this
theorem ear_eq {F l : List Sg} {a b : Int} {r : Int × Int} {f g : Option Addr} {n m cF cL : Nat} {w : World} (h1 : SliS w (.slice f n cF) F) (h2 : SliS w (.slice g m cL) l) (hn : n ≤ 100000) (hm : m ≤ 1000000000) (ha : -9223372036854775808 ≤ a ∧ a ≤ 9223372036854775807) (hb : -9223372036854775808 ≤ b ∧ b ≤ 9223372036854775807) (he : earS F a b l = r) :
    Calls Try.prog 17 #[.slice f n cF, V a b, .slice g m cL] w fun e w' => e = .returned (IE r) ∧ Below w.heap.size w w' := by
  obtain ⟨a', c', e, q1, q2, q3⟩ := h1
  obtain ⟨a'', c'', e2, s1, s2, s3⟩ := h2
  cases e; cases e2; subst he
  exact earliest_c F l a b f g cF cL w hn hm ha hb q3 s3
theorem lat_eq {F l : List Sg} {a b : Int} {r : Int × Int} {f g : Option Addr} {n m cF cL : Nat} {w : World} (h1 : SliS w (.slice f n cF) F) (h2 : SliS w (.slice g m cL) l) (hn : n ≤ 100000) (hm : m ≤ 1000000000) (ha : -9223372036854775808 ≤ a ∧ a ≤ 9223372036854775807) (hb : -9223372036854775808 ≤ b ∧ b ≤ 9223372036854775807) (he : latS F a b l = r) :
    Calls Try.prog 18 #[.slice f n cF, V a b, .slice g m cL] w fun e w' => e = .returned (IE r) ∧ Below w.heap.size w w' := by
  obtain ⟨a', c', e, q1, q2, q3⟩ := h1
  obtain ⟨a'', c'', e2, s1, s2, s3⟩ := h2
  cases e; cases e2; subst he
  exact latest_c F l a b f g cF cL w hn hm ha hb q3 s3
set_option maxRecDepth 100000 in
set_option maxHeartbeats 16000000 in
theorem shead_c (w : World) : Calls Try.prog 7 #[] w fun e w' => e = .returned (.bool true) ∧ Below w.heap.size w w' := by
  go_enter Try.func7, Try.ntmps7
  go_wp2_with fail
  ((with_reducible refine (slv_c _ _).mono ?_); rintro e w1 ⟨rfl, hb⟩)
  have HX := hidE (show Below w.heap.size w w1 from hb)
  have HB := HX
  clear hb HX
  go_wp2_with fail
  ((with_reducible refine (slv_c _ _).mono ?_); rintro e w2 ⟨rfl, hb⟩)
  have HX := hidE (show Below w1.heap.size w1 w2 from hb)
  have HB := hidE (bstep HX.out HB.out)
  clear hb HX
  go_wp2_with fail
  ((with_reducible refine (slv_c _ _).mono ?_); rintro e w3 ⟨rfl, hb⟩)
  have HX := hidE (show Below w2.heap.size w2 w3 from hb)
  have HB := hidE (bstep HX.out HB.out)
  clear hb HX
  go_upto_region 2 with fail
  obtain ⟨w4, hw⟩ : ∃ z, z = w3.alloc (Obj.cells #[.int .i64 0, .int .i64 5, .int .i64 5, .int .i64 10, .int .i64 2, .int .i64 2, .int .i64 12, .int .i64 5, .int .i64 5, .int .i64 20, .int .i64 0, .int .i64 0] 56) := ⟨_, rfl⟩
  have BN : Blk w4 w3.heap.size #[.int .i64 0, .int .i64 5, .int .i64 5, .int .i64 10, .int .i64 2, .int .i64 2, .int .i64 12, .int .i64 5, .int .i64 5, .int .i64 20, .int .i64 0, .int .i64 0] 56 := by rw [hw]; exact Blk.made _ _ _
  obtain ⟨pF, hp⟩ : ∃ z, z = w3.heap.size := ⟨_, rfl⟩
  rw [← hw, ← hp]
  rw [← hp] at BN
  have hb : Below w3.heap.size w3 w4 := by rw [hw]; exact (Below.refl _ _).alloc (Nat.le_refl _) _
  have HX := hidE (show Below w3.heap.size w3 w4 from hb)
  have HB := hidE (bstep HX.out HB.out)
  clear hb HX
  have SF := hidE (show SliS w4 (.slice (some ⟨pF, 0, none⟩) 4 4) hsF from sliS_mkS rfl (by omega) BN)
  clear BN hw hp
  go_upto_region 3 with fail
  obtain ⟨w5, hw⟩ : ∃ z, z = w4.alloc (Obj.cells #[.int .i64 0, .int .i64 30] 24) := ⟨_, rfl⟩
  have BN : Blk w5 w4.heap.size #[.int .i64 0, .int .i64 30] 24 := by rw [hw]; exact Blk.made _ _ _
  obtain ⟨pW, hp⟩ : ∃ z, z = w4.heap.size := ⟨_, rfl⟩
  rw [← hw, ← hp]
  rw [← hp] at BN
  have hb : Below w4.heap.size w4 w5 := by rw [hw]; exact (Below.refl _ _).alloc (Nat.le_refl _) _
  have HX := hidE (show Below w4.heap.size w4 w5 from hb)
  have HB := hidE (bstep HX.out HB.out)
  have SF := hidE (SF.out.past HX.out)
  clear hb HX
  have BW := hidE (BN)
  clear BN hw hp
  go_wp2_with fail
  ((with_reducible refine (slv_c _ _).mono ?_); rintro e w6 ⟨rfl, hb⟩)
  have HX := hidE (show Below w5.heap.size w5 w6 from hb)
  have HB := hidE (bstep HX.out HB.out)
  have SF := hidE (SF.out.past HX.out); have BW := hidE (BW.out.past HX.out)
  clear hb HX
  go_upto_region 4 with fail
  obtain ⟨w7, hw⟩ : ∃ z, z = w6.alloc (Obj.cells #[.int .i64 4, .int .i64 3, .int .i64 3] 38) := ⟨_, rfl⟩
  have BN : Blk w7 w6.heap.size #[.int .i64 4, .int .i64 3, .int .i64 3] 38 := by rw [hw]; exact Blk.made _ _ _
  obtain ⟨pL, hp⟩ : ∃ z, z = w6.heap.size := ⟨_, rfl⟩
  rw [← hw, ← hp]
  rw [← hp] at BN
  have hb : Below w6.heap.size w6 w7 := by rw [hw]; exact (Below.refl _ _).alloc (Nat.le_refl _) _
  have HX := hidE (show Below w6.heap.size w6 w7 from hb)
  have HB := hidE (bstep HX.out HB.out)
  have SF := hidE (SF.out.past HX.out); have BW := hidE (BW.out.past HX.out)
  clear hb HX
  have SL := hidE (show SliS w7 (.slice (some ⟨pL, 0, none⟩) 1 1) hsL from sliS_mkS rfl (by omega) BN)
  clear BN hw hp
  go_wp2_with fail
  ((with_reducible refine (slv_c _ _).mono ?_); rintro e w8 ⟨rfl, hb⟩)
  have HX := hidE (show Below w7.heap.size w7 w8 from hb)
  have HB := hidE (bstep HX.out HB.out)
  have SF := hidE (SF.out.past HX.out); have BW := hidE (BW.out.past HX.out); have SL := hidE (SL.out.past HX.out)
  clear hb HX
  go_wp2_with fail
  ((with_reducible refine (slv_c _ _).mono ?_); rintro e w9 ⟨rfl, hb⟩)
  have HX := hidE (show Below w8.heap.size w8 w9 from hb)
  have HB := hidE (bstep HX.out HB.out)
  have SF := hidE (SF.out.past HX.out); have BW := hidE (BW.out.past HX.out); have SL := hidE (SL.out.past HX.out)
  clear hb HX
  go_upto_region 5 with fail
  obtain ⟨w10, hw⟩ : ∃ z, z = w9.alloc (Obj.cells #[.int .i64 4, .int .i64 3, .int .i64 3, .int .i64 2, .int .i64 1, .int .i64 1] 38) := ⟨_, rfl⟩
  have BN : Blk w10 w9.heap.size #[.int .i64 4, .int .i64 3, .int .i64 3, .int .i64 2, .int .i64 1, .int .i64 1] 38 := by rw [hw]; exact Blk.made _ _ _
  obtain ⟨pM, hp⟩ : ∃ z, z = w9.heap.size := ⟨_, rfl⟩
  rw [← hw, ← hp]
  rw [← hp] at BN
  have hb : Below w9.heap.size w9 w10 := by rw [hw]; exact (Below.refl _ _).alloc (Nat.le_refl _) _
  have HX := hidE (show Below w9.heap.size w9 w10 from hb)
  have HB := hidE (bstep HX.out HB.out)
  have SF := hidE (SF.out.past HX.out); have BW := hidE (BW.out.past HX.out); have SL := hidE (SL.out.past HX.out)
  clear hb HX
  have SM := hidE (show SliS w10 (.slice (some ⟨pM, 0, none⟩) 2 2) hsM from sliS_mkS rfl (by omega) BN)
  clear BN hw hp
  have x0 := BW.out.cell 0; have x1 := BW.out.cell 1; have xz := BW.out.lt
  simp at x0 x1
  go_wp2_with fail
  ((with_reducible refine (begins_eq SF.out SL.out (by omega) (by omega) (by omega) (by omega) hs1).mono ?_); rintro e w11 ⟨a5, c5, rfl, hs5a, hb⟩)
  have HX := hidE (show Below w10.heap.size w10 w11 from hb)
  have HB := hidE (bstep HX.out HB.out)
  have SF := hidE (SF.out.past HX.out); have BW := hidE (BW.out.past HX.out); have SL := hidE (SL.out.past HX.out); have SM := hidE (SM.out.past HX.out)
  clear hb HX
  clear x0 x1 xz
  have S5 := hidE (show SliVs w11 (.slice a5 2 c5) [(0, 7), (12, 17)] from hs5a)
  clear hs5a
  have x0 := BW.out.cell 0; have x1 := BW.out.cell 1; have xz := BW.out.lt
  simp at x0 x1
  go_wp2_with fail
  ((with_reducible refine (ear_eq SF.out SL.out (by omega) (by omega) (by omega) (by omega) hs2).mono ?_); rintro e w12 ⟨rfl, hb⟩)
  have HX := hidE (show Below w11.heap.size w11 w12 from hb)
  have HB := hidE (bstep HX.out HB.out)
  have SF := hidE (SF.out.past HX.out); have BW := hidE (BW.out.past HX.out); have SL := hidE (SL.out.past HX.out); have SM := hidE (SM.out.past HX.out); have S5 := hidE (S5.out.past HX.out)
  clear hb HX
  clear x0 x1 xz
  have x0 := BW.out.cell 0; have x1 := BW.out.cell 1; have xz := BW.out.lt
  simp at x0 x1
  go_wp2_with fail
  ((with_reducible refine (lat_eq SF.out SL.out (by omega) (by omega) (by omega) (by omega) hs3).mono ?_); rintro e w13 ⟨rfl, hb⟩)
  have HX := hidE (show Below w12.heap.size w12 w13 from hb)
  have HB := hidE (bstep HX.out HB.out)
  have SF := hidE (SF.out.past HX.out); have BW := hidE (BW.out.past HX.out); have SL := hidE (SL.out.past HX.out); have SM := hidE (SM.out.past HX.out); have S5 := hidE (S5.out.past HX.out)
  clear hb HX
  clear x0 x1 xz
  go_wp2_with fail
  ((with_reducible refine (ear_eq SF.out SL.out (by omega) (by omega) (by omega) (by omega) hs4).mono ?_); rintro e w14 ⟨rfl, hb⟩)
  have HX := hidE (show Below w13.heap.size w13 w14 from hb)
  have HB := hidE (bstep HX.out HB.out)
  have SF := hidE (SF.out.past HX.out); have BW := hidE (BW.out.past HX.out); have SL := hidE (SL.out.past HX.out); have SM := hidE (SM.out.past HX.out); have S5 := hidE (S5.out.past HX.out)
  clear hb HX
  have x0 := BW.out.cell 0; have x1 := BW.out.cell 1; have xz := BW.out.lt
  simp at x0 x1
  go_wp2_with fail
  ((with_reducible refine (begins_eq SF.out SM.out (by omega) (by omega) (by omega) (by omega) hs5).mono ?_); rintro e w15 ⟨a6, c6, rfl, hs6a, hb⟩)
  have HX := hidE (show Below w14.heap.size w14 w15 from hb)
  have HB := hidE (bstep HX.out HB.out)
  have SF := hidE (SF.out.past HX.out); have BW := hidE (BW.out.past HX.out); have SL := hidE (SL.out.past HX.out); have SM := hidE (SM.out.past HX.out); have S5 := hidE (S5.out.past HX.out)
  clear hb HX
  clear x0 x1 xz
  have S6 := hidE (show SliVs w15 (.slice a6 2 c6) [(0, 7), (12, 15)] from hs6a)
  clear hs6a
  go_wp2_with fail
  ((with_reducible refine (length_eq SM.out (by omega) hs6).mono ?_); rintro e w16 ⟨rfl, hb⟩)
  have HX := hidE (show Below w15.heap.size w15 w16 from hb)
  have HB := hidE (bstep HX.out HB.out)
  have SF := hidE (SF.out.past HX.out); have BW := hidE (BW.out.past HX.out); have SL := hidE (SL.out.past HX.out); have SM := hidE (SM.out.past HX.out); have S5 := hidE (S5.out.past HX.out); have S6 := hidE (S6.out.past HX.out)
  clear hb HX
  go_wp2_with fail
  ((with_reducible refine (ear_eq SF.out SL.out (by omega) (by omega) (by omega) (by omega) hs7).mono ?_); rintro e w17 ⟨rfl, hb⟩)
  have HX := hidE (show Below w16.heap.size w16 w17 from hb)
  have HB := hidE (bstep HX.out HB.out)
  have SF := hidE (SF.out.past HX.out); have BW := hidE (BW.out.past HX.out); have SL := hidE (SL.out.past HX.out); have SM := hidE (SM.out.past HX.out); have S5 := hidE (S5.out.past HX.out); have S6 := hidE (S6.out.past HX.out)
  clear hb HX
  go_wp2_with fail
  ((with_reducible refine (ear_eq SF.out SL.out (by omega) (by omega) (by omega) (by omega) hs8).mono ?_); rintro e w18 ⟨rfl, hb⟩)
  have HX := hidE (show Below w17.heap.size w17 w18 from hb)
  have HB := hidE (bstep HX.out HB.out)
  have SF := hidE (SF.out.past HX.out); have BW := hidE (BW.out.past HX.out); have SL := hidE (SL.out.past HX.out); have SM := hidE (SM.out.past HX.out); have S5 := hidE (S5.out.past HX.out); have S6 := hidE (S6.out.past HX.out)
  clear hb HX
  have ha : Below w18.heap.size w18 (w18.alloc (Obj.cells #[.int .i64 0, .int .i64 7, .int .i64 12, .int .i64 17] 24)) := (Below.refl _ _).alloc (Nat.le_refl _) _
  have HA := hidE ha
  clear ha
  go_wp2_with fail
  ((with_reducible refine (rsameW_t (S5.out.past HA.out) (sliVs_mk (n := 2) (l := [(0, 7), (12, 17)]) ?hln ?hlb (Blk.made _ _ _))).mono ?_)
   case hln => rfl
   case hlb => omega)
  rintro e wa ⟨rfl, hb⟩
  have HX := hidE (show Below w18.heap.size w18 wa from HA.out.trans (hb.mono HA.out.size))
  have HB := hidE (bstep HX.out HB.out)
  have S6 := hidE (S6.out.past HX.out)
  clear hb HX HA
  have ha : Below wa.heap.size wa (wa.alloc (Obj.cells #[.int .i64 0, .int .i64 7, .int .i64 12, .int .i64 15] 24)) := (Below.refl _ _).alloc (Nat.le_refl _) _
  have HA := hidE ha
  clear ha
  go_wp2_with fail
  ((with_reducible refine (rsameW_t (S6.out.past HA.out) (sliVs_mk (n := 2) (l := [(0, 7), (12, 15)]) ?hln2 ?hlb2 (Blk.made _ _ _))).mono ?_)
   case hln2 => rfl
   case hlb2 => omega)
  rintro e wb ⟨rfl, hb⟩
  have HX := hidE (show Below wa.heap.size wa wb from HA.out.trans (hb.mono HA.out.size))
  have HB := hidE (bstep HX.out HB.out)
  clear hb HX HA
  go_wp2
  go_ret
  exact ⟨rfl, HB.out⟩
end Go.Proofs.Ytgflbidagdcfmaa

namespace Go.Proofs.Ytgflbidagdcfmaa
open Go.ChangeShapes Go.WideShapes Go.ChangeAt Go.RowKit
attribute [local irreducible] Go.Calls

/-- Does a window lie in one of a row? -/
def cvB (x : Wn) (M : List Wn) : Bool := M.any fun y => decide (y.1 ≤ x.1) && decide (x.2 ≤ y.2)
theorem cvB_step {x : Wn} {M : List Wn} {k : Nat} (h : k < M.length) : cvB x (M.take (k + 1)) = (cvB x (M.take k) || (decide ((M.getD k (0, 0)).1 ≤ x.1) && decide (x.2 ≤ (M.getD k (0, 0)).2))) := by
  unfold cvB
  rw [List.take_succ_eq_append_getElem h, List.any_append, getD_get _ _ _ h]
  simp
theorem cvB_all {x : Wn} {M : List Wn} (h : ∃ y ∈ M, y.1 ≤ x.1 ∧ x.2 ≤ y.2) : cvB x M = true := by
  obtain ⟨y, hy, h1, h2⟩ := h
  exact List.any_eq_true.2 ⟨y, hy, by simp [h1, h2]⟩
end Go.Proofs.Ytgflbidagdcfmaa

namespace Go.Proofs.Ytgflbidagdcfmaa
open Go.ChangeShapes Go.WideShapes Go.ChangeAt Go.RowKit
attribute [local irreducible] Go.Calls

set_option maxRecDepth 100000 in
theorem next_c (f g : List Sg) (a a' : Option Addr) (cap cap' : Nat) (w : World) (hl : f.length ≤ 1000000000) (hl' : g.length ≤ 1000000000) (hne : ¬ (f.length = 0 ∧ g.length = 0)) (hA : ArgS w a f) (hA' : ArgS w a' g) :
    Calls Try.prog 85 #[.slice a f.length cap, .slice a' g.length cap'] w fun e w' => e = .returned (.int .i64 (nextT f g)) ∧ Below w.heap.size w w' := by
  by_cases hg : g.length = 0
  · have hf : 0 < f.length := by omega
    have HE := hidE (show nextT f g = ats f 0 by unfold nextT; rw [if_pos (.inl hg)])
    obtain ⟨b, off, rfl, hb, hc⟩ := hA hf
    obtain ⟨c0, _, _⟩ := hc.get (i := 0) hf
    simp at c0
    have dg : ((g.length : Int) == 0) = true := beq_iff_eq.2 (by omega)
    clear hA hA' hc hne hg
    rw [HE.out]
    generalize ats f 0 = u at *
    generalize f.length = k at *
    generalize g.length = k' at *
    go_enter Try.func85, Try.ntmps85
    go_wp2
    go_quiet (fail)
    go_wp2
    go_ret
    exact ⟨rfl, by (repeat (first | exact Below.refl _ _ | assumption | refine balloc ?_ _ | refine below_drewN ?_ _ | refine bstep (by assumption) ?_ | refine bstep (Past.prop _) ?_ | refine Below.setCell ?_ (by first | exact Nat.le_refl _ | (simp; done) | (simp; omega)) _))⟩
  · have hg0 : 0 < g.length := by omega
    obtain ⟨b', off', rfl, hb', hc'⟩ := hA' hg0
    obtain ⟨d0, _, _⟩ := hc'.get (i := 0) hg0
    simp at d0
    have dg : ((g.length : Int) == 0) = false := beq_eq_false_iff_ne.2 (by omega)
    by_cases hf : f.length = 0
    · have HE := hidE (show nextT f g = ats g 0 by unfold nextT; rw [if_neg (by omega)])
      have df : decide (0 < f.length) = false := decide_eq_false (by omega)
      clear hA hA' hc' hne hg hf
      rw [HE.out]
      generalize ats g 0 = u at *
      generalize g.length = k at *
      generalize f.length = k' at *
      go_enter Try.func85, Try.ntmps85
      go_wp2
      go_quiet (fail)
      go_wp2
      go_ret
      exact ⟨rfl, by (repeat (first | exact Below.refl _ _ | assumption | refine balloc ?_ _ | refine below_drewN ?_ _ | refine bstep (by assumption) ?_ | refine bstep (Past.prop _) ?_ | refine Below.setCell ?_ (by first | exact Nat.le_refl _ | (simp; done) | (simp; omega)) _))⟩
    · have hf0 : 0 < f.length := by omega
      obtain ⟨b, off, rfl, hb, hc⟩ := hA hf0
      obtain ⟨c0, _, _⟩ := hc.get (i := 0) hf0
      simp at c0
      have df : decide (0 < f.length) = true := decide_eq_true hf0
      by_cases hlt : ats f 0 < ats g 0
      · have HE := hidE (show nextT f g = ats f 0 by unfold nextT; rw [if_pos (.inr ⟨hf0, hlt⟩)])
        have dl : decide (ats f 0 < ats g 0) = true := decide_eq_true hlt
        clear hA hA' hc hc' hne hg hf hlt
        rw [HE.out]
        generalize ats g 0 = u at *
        generalize ats f 0 = u' at *
        generalize g.length = k at *
        generalize f.length = k' at *
        go_enter Try.func85, Try.ntmps85
        go_wp2
        go_quiet (fail)
        go_wp2
        go_ret
        exact ⟨rfl, by (repeat (first | exact Below.refl _ _ | assumption | refine balloc ?_ _ | refine below_drewN ?_ _ | refine bstep (by assumption) ?_ | refine bstep (Past.prop _) ?_ | refine Below.setCell ?_ (by first | exact Nat.le_refl _ | (simp; done) | (simp; omega)) _))⟩
      · have HE := hidE (show nextT f g = ats g 0 by unfold nextT; rw [if_neg (by omega)])
        have dl : decide (ats f 0 < ats g 0) = false := decide_eq_false hlt
        clear hA hA' hc hc' hne hg hf hlt
        rw [HE.out]
        generalize ats g 0 = u at *
        generalize ats f 0 = u' at *
        generalize g.length = k at *
        generalize f.length = k' at *
        go_enter Try.func85, Try.ntmps85
        go_wp2
        go_quiet (fail)
        go_wp2
        go_ret
        exact ⟨rfl, by (repeat (first | exact Below.refl _ _ | assumption | refine balloc ?_ _ | refine below_drewN ?_ _ | refine bstep (by assumption) ?_ | refine bstep (Past.prop _) ?_ | refine Below.setCell ?_ (by first | exact Nat.le_refl _ | (simp; done) | (simp; omega)) _))⟩

/-- A slice value that reads as r wherever the slice a reads as f. -/
def SliAll (a : Option Addr) (f : List Sg) (v : Value) (r : List Sg) : Prop :=
  ∃ (a2 : Option Addr) (cap2 : Nat), v = .slice a2 r.length cap2 ∧ r.length ≤ cap2 ∧ cap2 ≤ 9223372036854775807 ∧ ∀ w0, ArgS w0 a f → ArgS w0 a2 r
theorem sliAll_refl (a : Option Addr) (f : List Sg) (cap : Nat) (h : f.length ≤ cap) (h2 : cap ≤ 9223372036854775807) : SliAll a f (.slice a f.length cap) f := ⟨a, cap, rfl, h, h2, fun _ h => h⟩
theorem sliAll_trans {a a1 : Option Addr} {f f1 r : List Sg} {v : Value} (h : ∀ w0, ArgS w0 a f → ArgS w0 a1 f1) (h2 : SliAll a1 f1 v r) : SliAll a f v r := by
  obtain ⟨a2, cap2, e, l1, l2, k⟩ := h2
  exact ⟨a2, cap2, e, l1, l2, fun w0 h0 => k w0 (h w0 h0)⟩
theorem argS_tail {b off : Nat} {f : List Sg} (w0 : World) (h : ArgS w0 (some ⟨b, off, none⟩) f) : ArgS w0 (some ⟨b, off + 3, none⟩) (f.drop 1) := fun hl => by
  rw [List.length_drop] at hl
  obtain ⟨b', off', e, hb, hc⟩ := h (by omega)
  cases e
  refine ⟨b, off + 3, rfl, hb, fun i hi => ?_⟩
  rw [List.length_drop] at hi
  obtain ⟨h1, h2, h3⟩ := hc (i + 1) (by omega)
  have e : (f.drop 1).getD i (0, 0, 0) = f.getD (i + 1) (0, 0, 0) := by simp [List.getD_eq_getElem?_getD]
  rw [e, show off + 3 + i * 3 = off + (i + 1) * 3 by omega]
  exact ⟨h1, h2, h3⟩

set_option maxRecDepth 100000 in
theorem pass_c (f : List Sg) (t x y : Int) (a : Option Addr) (cap : Nat) (w : World) (hl : f.length ≤ cap) (hl' : cap ≤ 9223372036854775807) (hA : ArgS w a f) :
    Calls Try.prog 86 #[.slice a f.length cap, .int .i64 t, V x y] w fun e w' => (∃ sv, e = .returned (.tuple #[V (passV f t (x, y)).1 (passV f t (x, y)).2, sv]) ∧ SliAll a f sv (passF f t)) ∧ Below w.heap.size w w' := by
  by_cases hf : f.length = 0
  · have HE := hidE (show passV f t (x, y) = (x, y) by unfold passV hit; rw [if_neg (by rw [hf]; simp)])
    have HF := hidE (show passF f t = f by unfold passF hit; rw [if_neg (by rw [hf]; simp)])
    have HS := hidE (sliAll_refl a f cap hl hl')
    have df : decide (0 < f.length) = false := decide_eq_false (by omega)
    clear hA hf hl hl'
    rw [HE.out, HF.out]
    generalize f.length = k at *
    go_enter Try.func86, Try.ntmps86
    go_wp2
    refine bodyPost_ret (v := .tuple #[V x y, .slice a k cap]) (by simp [results, Try.results86, go_sem, *]) rfl ⟨⟨_, rfl, HS.out⟩, ?_⟩
    (repeat (first | exact Below.refl _ _ | assumption | refine balloc ?_ _ | refine below_drewN ?_ _ | refine bstep (by assumption) ?_ | refine bstep (Past.prop _) ?_ | refine Below.setCell ?_ (by first | exact Nat.le_refl _ | (simp; done) | (simp; omega)) _))
  · have hf0 : 0 < f.length := by omega
    obtain ⟨b, off, rfl, hb, hc⟩ := hA hf0
    obtain ⟨c0, c1, c2⟩ := hc.get (i := 0) hf0
    simp at c0 c1 c2
    have df : decide (0 < f.length) = true := decide_eq_true hf0
    by_cases ht : ats f 0 = t
    · have HE := hidE (show passV f t (x, y) = vls f 0 by unfold passV hit; rw [if_pos (by simp [hf0, ht])])
      have HF := hidE (show passF f t = f.drop 1 by unfold passF hit; rw [if_pos (by simp [hf0, ht])])
      have HS := hidE (argS_tail (b := b) (off := off) (f := f))
      have dt : (ats f 0 == t) = true := beq_iff_eq.2 ht
      have HL := hidE (show (f.drop 1).length = f.length - 1 by rw [List.length_drop])
      clear hA hc hf ht
      rw [HE.out, HF.out]
      generalize f.drop 1 = r at *
      generalize ats f 0 = u at *
      generalize vls f 0 = v at *
      go_enter Try.func86, Try.ntmps86
      go_upto_region 2 with fail
      go_region
      have hB : Below w.heap.size w ((w.alloc (Obj.cells #[Value.int IntKind.i64 x, Value.int IntKind.i64 y] 36)).alloc (Obj.cells #[Value.int IntKind.i64 v.fst, Value.int IntKind.i64 v.snd] 36)).drew :=
        Below.trans (b := (w.alloc (Obj.cells #[Value.int IntKind.i64 x, Value.int IntKind.i64 y] 36)).alloc (Obj.cells #[Value.int IntKind.i64 v.fst, Value.int IntKind.i64 v.snd] 36)) (by (repeat (first | exact Below.refl _ _ | assumption | refine balloc ?_ _ | refine below_drewN ?_ _ | refine bstep (by assumption) ?_ | refine bstep (Past.prop _) ?_ | refine Below.setCell ?_ (by first | exact Nat.le_refl _ | (simp; done) | (simp; omega)) _))) (Below.refl _ _).drew
      have HB := hidE hB
      clear hB
      go_wp2
      · refine bodyPost_ret (v := .tuple #[V v.1 v.2, .slice (if cap = 1 then some ⟨b, off, none⟩ else some ⟨b, off + 3, none⟩) (f.length - 1) (cap - 1)]) (by simp [results, Try.results86, go_sem, *]) rfl ⟨⟨_, rfl, _, _, by rw [HL.out], by rw [HL.out]; omega, by omega, fun w0 h0 hl0 => ?_⟩, HB.out⟩
        rw [HL.out] at hl0
        omega
      · refine bodyPost_ret (v := .tuple #[V v.1 v.2, .slice (if cap = 1 then some ⟨b, off, none⟩ else some ⟨b, off + 3, none⟩) (f.length - 1) (cap - 1)]) (by simp [results, Try.results86, go_sem, *]) rfl ⟨⟨_, rfl, _, _, by rw [HL.out], by rw [HL.out]; omega, by omega, fun w0 h0 => ?_⟩, HB.out⟩
        rw [if_neg (by assumption)]
        exact HS.out w0 h0
    · have HE := hidE (show passV f t (x, y) = (x, y) by unfold passV hit; rw [if_neg (by simp [ht])])
      have HF := hidE (show passF f t = f by unfold passF hit; rw [if_neg (by simp [ht])])
      have HS := hidE (sliAll_refl (some ⟨b, off, none⟩) f cap hl hl')
      have dt : (ats f 0 == t) = false := beq_eq_false_iff_ne.2 ht
      clear hA hc hf hl hl' ht c1 c2
      rw [HE.out, HF.out]
      generalize ats f 0 = u at *
      generalize f.length = k at *
      go_enter Try.func86, Try.ntmps86
      go_wp2
      refine bodyPost_ret (v := .tuple #[V x y, .slice (some ⟨b, off, none⟩) k cap]) (by simp [results, Try.results86, go_sem, *]) rfl ⟨⟨_, rfl, HS.out⟩, ?_⟩
      (repeat (first | exact Below.refl _ _ | assumption | refine balloc ?_ _ | refine below_drewN ?_ _ | refine bstep (by assumption) ?_ | refine bstep (Past.prop _) ?_ | refine Below.setCell ?_ (by first | exact Nat.le_refl _ | (simp; done) | (simp; omega)) _))
end Go.Proofs.Ytgflbidagdcfmaa

namespace Go.Proofs.Ytgflbidagdcfmaa
open Go.ChangeShapes Go.WideShapes Go.ChangeAt Go.RowKit
attribute [local irreducible] Go.Calls

/-- What yield is handed. -/
def encT (p : Tg) : Array Value := #[.int .i64 p.1, .agg #[.int .i64 p.2.1.1, .int .i64 p.2.1.2, .int .i64 p.2.2.1, .int .i64 p.2.2.2]]

/-- Where the walk stands between two rounds. -/
def TogAt (F G : List Sg) (w0 W : World) (J : List Tg → World → Prop) (gh : Nat) (v4 v5 : Value) (wr : World) : Prop :=
  ∃ (f g : List Sg) (x y : Int × Int) (pre : List Tg) (a1 a2 : Option Addr) (c1 c2 : Nat), v4 = .slice a1 f.length c1 ∧ v5 = .slice a2 g.length c2 ∧
    f.length ≤ c1 ∧ c1 ≤ 9223372036854775807 ∧ g.length ≤ c2 ∧ c2 ≤ 9223372036854775807 ∧ ArgS w0 a1 f ∧ ArgS w0 a2 g ∧ f.length + g.length ≤ gh ∧ f.length + g.length ≤ 1000000000 ∧
    pre ++ tog gh f g x y = togL F G ∧ J pre wr ∧ Below w0.heap.size w0 wr ∧ W.heap.size ≤ wr.heap.size ∧ Blk wr (W.heap.size + 1) #[.int .i64 x.1, .int .i64 x.2, .int .i64 y.1, .int .i64 y.2] 116

set_option maxRecDepth 100000 in
set_option maxHeartbeats 2000000 in
theorem tog_c (F G : List Sg) (a a' : Option Addr) (cap cap' : Nat) (fv : Value) (w0 w : World) (hF : F.length ≤ cap) (hc : cap ≤ 9223372036854775807) (hG : G.length ≤ cap') (hc' : cap' ≤ 9223372036854775807)
    (hl : F.length + G.length ≤ 1000000000) (hA : ArgS w0 a F) (hA' : ArgS w0 a' G) (hb : Below w0.heap.size w0 w) :
    SeqT Try.prog 62 #[.agg #[.slice a F.length cap, .slice a' G.length cap', fv]] #[] encT w0.heap.size (togL F G) w := by
  intro l J Jx W hW hJ hJx hY h0
  have H0 := hidE h0; have HJ := hidE hJ; have HJX := hidE hJx; have HY := hidE hY
  have HA := hidE hA; have HA' := hidE hA'
  have hbW : Below w0.heap.size w0 W := hb.trans (hW.mono hb.size)
  have HBW := hidE hbW
  have HL := hidE (And.intro (And.intro hF hc) (And.intro hG hc'))
  clear hA hA' hJ hJx hY h0 hF hG hc hc' hb hW hbW
  show Calls Try.prog 62 #[.agg #[.slice a F.length cap, .slice a' G.length cap', fv], .func (.yield l) #[] #[]] W _
  go_enter Try.func62, Try.ntmps62
  go_wp2
  go_quiet (fail)
  go_wp2
  go_loopg [4, 5, 7] (F.length + G.length) (fun gh v4 v5 _ wr => TogAt F G w0 W J gh v4 v5 wr)
  case atStart =>
    obtain ⟨⟨e1, e2⟩, e3, e4⟩ := HL.out
    refine ⟨F, G, (0, 0), (0, 0), [], a, a', cap, cap', rfl, rfl, e1, e2, e3, e4, HA.out, HA'.out, Nat.le_refl _, hl, rfl, HJ.out _ _ _ H0.out ?_, HBW.out.trans (Below.mono ?_ HBW.out.size), ?_, ?_⟩
    · (repeat (first | exact Below.refl _ _ | assumption | refine balloc ?_ _ | refine below_drewN ?_ _ | refine bstep (by assumption) ?_ | refine bstep (Past.prop _) ?_ | refine Below.setCell ?_ (by first | exact Nat.le_refl _ | (simp; done) | (simp; omega)) _))
    · (repeat (first | exact Below.refl _ _ | assumption | refine balloc ?_ _ | refine below_drewN ?_ _ | refine bstep (by assumption) ?_ | refine bstep (Past.prop _) ?_ | refine Below.setCell ?_ (by first | exact Nat.le_refl _ | (simp; done) | (simp; omega)) _))
    · simp; omega
    · exact Blk.made_at _ _ _ _ (by simp)
  case round =>
    obtain ⟨f, g, x, y, pre, a1, a2, c1, c2, rfl, rfl, l1, m1, l2, m2, k1, k2, hgh, hlen, hpre, hJ1, hB1, hsz, blk⟩ := hrel
    clear HA HA' HL
    have K1 := hidE k1; have K2 := hidE k2; have HJ1 := hidE hJ1; have HB1 := hidE hB1; have HPRE := hidE hpre
    have HM := hidE (And.intro (And.intro l1 m1) (And.intro l2 m2))
    have HG := hidE (And.intro hgh hlen)
    have HSZ := hidE hsz
    clear k1 k2 hJ1 hB1 hpre l1 m1 l2 m2 hgh hlen hsz
    obtain ⟨wo, hwo⟩ : ∃ wo : World, wo = wr := ⟨_, rfl⟩
    by_cases hne : f.length = 0 ∧ g.length = 0
    · have df : decide (0 < f.length) = false := decide_eq_false (by omega)
      have dg : decide (0 < g.length) = false := decide_eq_false (by omega)
      have HE := hidE (tog_nil (n := gk) (x := x) (y := y) hne.1 hne.2)
      clear hne
      generalize f.length = kf at *
      generalize g.length = kg at *
      go_wp2
      go_end0
      exact ⟨⟨_, rfl⟩, .inl (by have := HPRE.out; rw [HE.out, List.append_nil] at this; rw [← this]; exact HJ1.out)⟩
    · obtain ⟨gk', rfl⟩ : ∃ gk', gk = gk' + 1 := ⟨gk - 1, by have := HG.out.1; omega⟩
      have HPRE' := HPRE.out
      rw [tog_cons hne] at HPRE'
      have HP := hidE HPRE'
      have HLESS := hidE (pass_less hne)
      have HNE := hidE hne
      clear HPRE' HPRE
      have HNX := hidE (fun w h1 h2 => next_c f g a1 a2 c1 c2 w (by have := HG.out.2; omega) (by have := HG.out.2; omega) HNE.out h1 h2)
      have HPF := hidE (fun w h1 => pass_c f (nextT f g) x.1 x.2 a1 c1 w HM.out.1.1 HM.out.1.2 h1)
      have HPG := hidE (fun w h1 => pass_c g (nextT f g) y.1 y.2 a2 c2 w HM.out.2.1 HM.out.2.2 h1)
      have hd : decide (0 < f.length) = true ∨ (decide (0 < f.length) = false ∧ decide (0 < g.length) = true) := by
        by_cases c : 0 < f.length
        · exact .inl (decide_eq_true c)
        · exact .inr ⟨decide_eq_false c, decide_eq_true (by omega)⟩
      have HFL := hidE (passF_len f (nextT f g)); have HGL := hidE (passF_len g (nextT f g))
      generalize hxv : passV f (nextT f g) x = x' at *
      generalize hyv : passV g (nextT f g) y = y' at *
      have hxv' : passV f (nextT f g) (x.1, x.2) = x' := hxv
      have hyv' : passV g (nextT f g) (y.1, y.2) = y' := hyv
      try simp only [hxv'] at HPF
      try simp only [hyv'] at HPG
      clear hxv hyv hxv' hyv' hne
      generalize passF f (nextT f g) = f' at *
      generalize passF g (nextT f g) = g' at *
      generalize nextT f g = t at *
      have p0 := blk.cell 0; have p1 := blk.cell 1; have p2 := blk.cell 2; have p3 := blk.cell 3; have pf := blk.free; have pz := blk.lt
      simp at p0 p1 p2 p3
      rcases hd with hd | ⟨hd, hd'⟩
      all_goals
        have hw0 := HBW.out.size
        go_wp2_with fail
        ((with_reducible refine (HNX.out _ (K1.out.past HB1.out) (K2.out.past HB1.out)).mono ?_); rintro e w1 ⟨rfl, hb1⟩)
        have q1 := blk.past hb1
        have bb1 : Below W.heap.size wr w1 := hb1.mono HSZ.out
        have s1 := hb1.size
        clear hb1 p0 p1 p2 p3 pf pz
        have p0 := q1.cell 0; have p1 := q1.cell 1; have p2 := q1.cell 2; have p3 := q1.cell 3; have pf := q1.free; have pz := q1.lt
        simp at p0 p1 p2 p3
        go_wp2_with fail
        ((with_reducible refine (HPF.out _ (K1.out.past (HB1.out.trans (bb1.mono hw0)))).mono ?_); rintro e w2 ⟨⟨sv, rfl, hsv⟩, hb2⟩)
        obtain ⟨a3, c3, rfl, l3, m3, k3⟩ := hsv
        have K3 := hidE (k3 _ K1.out); have M3 := hidE (And.intro l3 m3)
        have q2 := q1.past hb2
        have bb2 : Below W.heap.size wr w2 := bb1.trans (hb2.mono (Nat.le_trans HSZ.out s1))
        have s2 := hb2.size
        clear hb2 p0 p1 p2 p3 pf pz bb1 l3 m3 k3
        have q3 := (q2.set 0 (.int .i64 x'.1)).set 1 (.int .i64 x'.2)
        have bb3 : Below W.heap.size wr ((w2.setCell ⟨W.heap.size + 1, 0, none⟩ (.int .i64 x'.1)).setCell ⟨W.heap.size + 1, 1, none⟩ (.int .i64 x'.2)) := by (repeat (first | exact Below.refl _ _ | assumption | refine balloc ?_ _ | refine below_drewN ?_ _ | refine bstep (by assumption) ?_ | refine bstep (Past.prop _) ?_ | refine Below.setCell ?_ (by first | exact Nat.le_refl _ | (simp; done) | (simp; omega)) _))
        have p0 := q2.cell 0; have p1 := q2.cell 1; have p2 := q2.cell 2; have p3 := q2.cell 3; have pf := q2.free; have pz := q2.lt
        simp at p0 p1 p2 p3 q3
        go_wp2_with fail
        ((with_reducible refine (HPG.out _ (K2.out.past (HB1.out.trans (bb3.mono hw0)))).mono ?_); rintro e w3 ⟨⟨sv, rfl, hsv⟩, hb3⟩)
        obtain ⟨a4, c4, rfl, l4, m4, k4⟩ := hsv
        have K4 := hidE (k4 _ K2.out); have M4 := hidE (And.intro l4 m4)
        have q4 := q3.past hb3
        have bb4 : Below W.heap.size wr w3 := bb3.trans (hb3.mono (by simp [World.setCell]; omega))
        have s4 : wr.heap.size ≤ w3.heap.size := by have := hb3.size; simp [World.setCell] at this; omega
        clear hb3 p0 p1 p2 p3 pf pz bb2 bb3 l4 m4 k4
        have q5 := (q4.set 2 (.int .i64 y'.1)).set 3 (.int .i64 y'.2)
        have bb5 : Below W.heap.size wr ((w3.setCell ⟨W.heap.size + 1, 2, none⟩ (.int .i64 y'.1)).setCell ⟨W.heap.size + 1, 3, none⟩ (.int .i64 y'.2)) := by (repeat (first | exact Below.refl _ _ | assumption | refine balloc ?_ _ | refine below_drewN ?_ _ | refine bstep (by assumption) ?_ | refine bstep (Past.prop _) ?_ | refine Below.setCell ?_ (by first | exact Nat.le_refl _ | (simp; done) | (simp; omega)) _))
        have p0 := q4.cell 0; have p1 := q4.cell 1; have p2 := q4.cell 2; have p3 := q4.cell 3; have pf := q4.free; have pz := q4.lt
        simp at p0 p1 p2 p3 q5
        obtain ⟨fn, tmps, assign, body, hy, hR⟩ := HY.out pre (t, x', y') _ (HJ.out _ _ _ HJ1.out bb5) ⟨tog gk' f' g' x' y', by rw [← HP.out]; simp⟩
        dsimp only [encT] at hy
        go_upto_region 7 with fail
        refine (wpIn_wide (n := 0)).1 ?_
        gi_wp2
        refine ⟨rfl, hR.mono ?_⟩
        clear hy hR
        rintro e W' (⟨rfl, hJ', hO⟩ | ⟨rfl, hJx'⟩)
        · gi_wp2
          go_wp2
          go_roundg gk'
          case measure => omega
          case rel =>
            have hz : W.heap.size + 1 < ((w3.setCell ⟨W.heap.size + 1, 2, none⟩ (.int .i64 y'.1)).setCell ⟨W.heap.size + 1, 3, none⟩ (.int .i64 y'.2)).heap.size := q5.lt
            exact ⟨f', g', x', y', pre ++ [(t, x', y')], a3, a4, c3, c4, rfl, rfl, M3.out.1, M3.out.2, M4.out.1, M4.out.2, K3.out, K4.out, by have := HLESS.out; have := HG.out.1; omega, by have := HLESS.out; have := HG.out.2; omega,
              by rw [← HP.out]; simp, hJ', (HB1.out.trans (bb5.mono hw0)).trans hO.below, Nat.le_trans (Nat.le_trans HSZ.out bb5.size) hO.below.size, (hO.beyond _ (by omega) hz).trans q5⟩
        · gi_wp2
          go_wp2
          refine bodyPost_ret (results_none rfl _ _ _) rfl ?_
          exact ⟨⟨_, rfl⟩, .inr ⟨pre ++ [(t, x', y')], ⟨tog gk' f' g' x' y', by rw [← HP.out]; simp⟩, hJx'⟩⟩
end Go.Proofs.Ytgflbidagdcfmaa

namespace Go.Proofs.Ytgflbidagdcfmaa
open Go.ChangeShapes Go.WideShapes Go.ChangeAt Go.RowKit

end Go.Proofs.Ytgflbidagdcfmaa

namespace Go.Proofs.Ytgflbidagdcfmaa
open Go.ChangeShapes Go.WideShapes Go.ChangeAt Go.RowKit

theorem cl_add (x y : Int) (w : World) (hx : -1125899906842624 ≤ x ∧ x ≤ 1125899906842624) (hy : -1125899906842624 ≤ y ∧ y ≤ 1125899906842624) : Calls Try.prog 84 #[.int .i64 x, .int .i64 y] w fun e w' => e = .returned (.int .i64 (x + y)) ∧ w' = w := by
  go_enter Try.func84, Try.ntmps84
  go_wp2
  go_ret
  exact ⟨rfl, rfl⟩
/-- Both components by one closure that only computes. -/
theorem both_add (a b c d : Int) (w : World) (h1 : okV a b = true) (h2 : okV c d = true) :
    Calls Try.prog 100 #[V a b, V c d, .func (.func 84) #[] #[]] w fun e w' => e = .returned (.tuple #[.int .i64 (a + c), .int .i64 (b + d)]) ∧ Below w.heap.size w w' := by
  have g1 := h1; have g2 := h2
  simp only [okV_iff] at g1 g2
  have G1 := hidE g1; have G2 := hidE g2
  clear g1 g2 h1 h2
  go_enter Try.func100, Try.ntmps100
  go_wp2
  go_quiet ((go_at_call 84; exact Calls.quiet_of_same (cl_add _ _ _ (by have := G1.out; have := G2.out; omega) (by have := G1.out; have := G2.out; omega))))
  go_wp2
  go_ret2
  exact ⟨rfl, below_drewN (((Below.refl _ _).alloc (Nat.le_refl _) _).alloc (by simp) _) _⟩
theorem valid_no (fv : Value) (a b c d : Int) (w : World) (h : (okV a b && okV c d) = false) :
    Calls Try.prog 83 #[V a b, V c d, fv] w fun e w' => e = .returned (VE (0, 0, 10)) ∧ Below w.heap.size w w' := by
  cases h1 : okV a b
  · clear h
    go_enter Try.func83, Try.ntmps83
    go_wp2_with (go_at_call 67; ((with_reducible refine (may_eq h1).mono ?_); rintro e w' ⟨rfl, hb⟩; obtain ⟨hc, hf⟩ := bcell hb; have hz0 := bsz hb (w.heap.size) (by first | assumption | (simp; done) | (simp; omega)); have hz1 := bsz hb (w.heap.size + 1) (by first | assumption | (simp; done) | (simp; omega)); have hz2 := bsz hb (w.heap.size + 1 + 1) (by first | assumption | (simp; done) | (simp; omega))))
    refine bodyPost_ret (v := VE (0, 0, 10)) (by simp [results, Try.results83, go_sem, *]) rfl ⟨rfl, ?_⟩
    (repeat (first | exact Below.refl _ _ | assumption | refine balloc ?_ _ | refine below_drewN ?_ _ | refine bstep (by assumption) ?_ | refine bstep (Past.prop _) ?_ | refine Below.setCell ?_ (by first | exact Nat.le_refl _ | (simp; done) | (simp; omega)) _))
  · have h2 : okV c d = false := by rw [h1] at h; simpa using h
    clear h
    go_enter Try.func83, Try.ntmps83
    go_wp2_with (first | (go_at_call 67; ((with_reducible refine (may_eq h1).mono ?_); rintro e w' ⟨rfl, hb⟩; obtain ⟨hc, hf⟩ := bcell hb; have hz0 := bsz hb (w.heap.size) (by first | assumption | (simp; done) | (simp; omega)); have hz1 := bsz hb (w.heap.size + 1) (by first | assumption | (simp; done) | (simp; omega)); have hz2 := bsz hb (w.heap.size + 1 + 1) (by first | assumption | (simp; done) | (simp; omega)))) | (go_at_call 67; ((with_reducible refine (may_eq h2).mono ?_); rintro e w' ⟨rfl, hb⟩; obtain ⟨hc, hf⟩ := bcell hb; have hz0 := bsz hb (w.heap.size) (by first | assumption | (simp; done) | (simp; omega)); have hz1 := bsz hb (w.heap.size + 1) (by first | assumption | (simp; done) | (simp; omega)); have hz2 := bsz hb (w.heap.size + 1 + 1) (by first | assumption | (simp; done) | (simp; omega)))))
    refine bodyPost_ret (v := VE (0, 0, 10)) (by simp [results, Try.results83, go_sem, *]) rfl ⟨rfl, ?_⟩
    (repeat (first | exact Below.refl _ _ | assumption | refine balloc ?_ _ | refine below_drewN ?_ _ | refine bstep (by assumption) ?_ | refine bstep (Past.prop _) ?_ | refine Below.setCell ?_ (by first | exact Nat.le_refl _ | (simp; done) | (simp; omega)) _))

theorem valid_yes (fv : Value) (a b c d x y : Int) (w : World) (h1 : okV a b = true) (h2 : okV c d = true)
    (HB : ∀ w', Below w.heap.size w w' → Calls Try.prog 100 #[V a b, V c d, fv] w' fun e w'' => e = .returned (.tuple #[.int .i64 x, .int .i64 y]) ∧ Below w'.heap.size w' w'') :
    Calls Try.prog 83 #[V a b, V c d, fv] w fun e w' => e = .returned (VE (gate (okV x y) x y)) ∧ Below w.heap.size w w' := by
  have HB' := hidE HB; clear HB
  cases h3 : okV x y
  · rw [gate_false rfl]
    go_enter Try.func83, Try.ntmps83
    go_wp2_with (first | (go_at_call 67; ((with_reducible refine (may_eq h1).mono ?_); rintro e w' ⟨rfl, hb⟩; obtain ⟨hc, hf⟩ := bcell hb; have hz0 := bsz hb (w.heap.size) (by first | assumption | (simp; done) | (simp; omega)); have hz1 := bsz hb (w.heap.size + 1) (by first | assumption | (simp; done) | (simp; omega)); have hz2 := bsz hb (w.heap.size + 1 + 1) (by first | assumption | (simp; done) | (simp; omega)))) | (go_at_call 67; ((with_reducible refine (may_eq h2).mono ?_); rintro e w' ⟨rfl, hb⟩; obtain ⟨hc, hf⟩ := bcell hb; have hz0 := bsz hb (w.heap.size) (by first | assumption | (simp; done) | (simp; omega)); have hz1 := bsz hb (w.heap.size + 1) (by first | assumption | (simp; done) | (simp; omega)); have hz2 := bsz hb (w.heap.size + 1 + 1) (by first | assumption | (simp; done) | (simp; omega)))) | (go_at_call 100; ((with_reducible refine (HB'.out _ (by (repeat (first | exact Below.refl _ _ | assumption | refine balloc ?_ _ | refine below_drewN ?_ _ | refine bstep (by assumption) ?_ | refine bstep (Past.prop _) ?_ | refine Below.setCell ?_ (by first | exact Nat.le_refl _ | (simp; done) | (simp; omega)) _)))).mono ?_); rintro e w' ⟨rfl, hb⟩; obtain ⟨hc, hf⟩ := bcell hb; have hz0 := bsz hb (w.heap.size) (by first | assumption | (simp; done) | (simp; omega)); have hz1 := bsz hb (w.heap.size + 1) (by first | assumption | (simp; done) | (simp; omega)); have hz2 := bsz hb (w.heap.size + 1 + 1) (by first | assumption | (simp; done) | (simp; omega)))) | (go_at_call 99; ((with_reducible refine (of_ _ _ _).mono ?_); rintro e w' ⟨rfl, hb⟩; obtain ⟨hc, hf⟩ := bcell hb; have hz0 := bsz hb (w.heap.size) (by first | assumption | (simp; done) | (simp; omega)); have hz1 := bsz hb (w.heap.size + 1) (by first | assumption | (simp; done) | (simp; omega)); have hz2 := bsz hb (w.heap.size + 1 + 1) (by first | assumption | (simp; done) | (simp; omega)))) | (go_at_call 67; ((with_reducible refine (may_eq h3).mono ?_); rintro e w' ⟨rfl, hb⟩; obtain ⟨hc, hf⟩ := bcell hb; have hz0 := bsz hb (w.heap.size) (by first | assumption | (simp; done) | (simp; omega)); have hz1 := bsz hb (w.heap.size + 1) (by first | assumption | (simp; done) | (simp; omega)); have hz2 := bsz hb (w.heap.size + 1 + 1) (by first | assumption | (simp; done) | (simp; omega)))))
    refine bodyPost_ret (v := VE (0, 0, 10)) (by simp [results, Try.results83, go_sem, *]) rfl ⟨rfl, ?_⟩
    (repeat (first | exact Below.refl _ _ | assumption | refine balloc ?_ _ | refine below_drewN ?_ _ | refine bstep (by assumption) ?_ | refine bstep (Past.prop _) ?_ | refine Below.setCell ?_ (by first | exact Nat.le_refl _ | (simp; done) | (simp; omega)) _))
  · rw [gate_true rfl]
    go_enter Try.func83, Try.ntmps83
    go_wp2_with (first | (go_at_call 67; ((with_reducible refine (may_eq h1).mono ?_); rintro e w' ⟨rfl, hb⟩; obtain ⟨hc, hf⟩ := bcell hb; have hz0 := bsz hb (w.heap.size) (by first | assumption | (simp; done) | (simp; omega)); have hz1 := bsz hb (w.heap.size + 1) (by first | assumption | (simp; done) | (simp; omega)); have hz2 := bsz hb (w.heap.size + 1 + 1) (by first | assumption | (simp; done) | (simp; omega)))) | (go_at_call 67; ((with_reducible refine (may_eq h2).mono ?_); rintro e w' ⟨rfl, hb⟩; obtain ⟨hc, hf⟩ := bcell hb; have hz0 := bsz hb (w.heap.size) (by first | assumption | (simp; done) | (simp; omega)); have hz1 := bsz hb (w.heap.size + 1) (by first | assumption | (simp; done) | (simp; omega)); have hz2 := bsz hb (w.heap.size + 1 + 1) (by first | assumption | (simp; done) | (simp; omega)))) | (go_at_call 100; ((with_reducible refine (HB'.out _ (by (repeat (first | exact Below.refl _ _ | assumption | refine balloc ?_ _ | refine below_drewN ?_ _ | refine bstep (by assumption) ?_ | refine bstep (Past.prop _) ?_ | refine Below.setCell ?_ (by first | exact Nat.le_refl _ | (simp; done) | (simp; omega)) _)))).mono ?_); rintro e w' ⟨rfl, hb⟩; obtain ⟨hc, hf⟩ := bcell hb; have hz0 := bsz hb (w.heap.size) (by first | assumption | (simp; done) | (simp; omega)); have hz1 := bsz hb (w.heap.size + 1) (by first | assumption | (simp; done) | (simp; omega)); have hz2 := bsz hb (w.heap.size + 1 + 1) (by first | assumption | (simp; done) | (simp; omega)))) | (go_at_call 99; ((with_reducible refine (of_ _ _ _).mono ?_); rintro e w' ⟨rfl, hb⟩; obtain ⟨hc, hf⟩ := bcell hb; have hz0 := bsz hb (w.heap.size) (by first | assumption | (simp; done) | (simp; omega)); have hz1 := bsz hb (w.heap.size + 1) (by first | assumption | (simp; done) | (simp; omega)); have hz2 := bsz hb (w.heap.size + 1 + 1) (by first | assumption | (simp; done) | (simp; omega)))) | (go_at_call 67; ((with_reducible refine (may_eq h3).mono ?_); rintro e w' ⟨rfl, hb⟩; obtain ⟨hc, hf⟩ := bcell hb; have hz0 := bsz hb (w.heap.size) (by first | assumption | (simp; done) | (simp; omega)); have hz1 := bsz hb (w.heap.size + 1) (by first | assumption | (simp; done) | (simp; omega)); have hz2 := bsz hb (w.heap.size + 1 + 1) (by first | assumption | (simp; done) | (simp; omega)))))
    refine bodyPost_ret (v := VE (x, y, 0)) (by simp [results, Try.results83, go_sem, *]) rfl ⟨rfl, ?_⟩
    (repeat (first | exact Below.refl _ _ | assumption | refine balloc ?_ _ | refine below_drewN ?_ _ | refine bstep (by assumption) ?_ | refine bstep (Past.prop _) ?_ | refine Below.setCell ?_ (by first | exact Nat.le_refl _ | (simp; done) | (simp; omega)) _))

theorem vadd (a b c d : Int) (w : World) : Calls Try.prog 83 #[V a b, V c d, .func (.func 84) #[] #[]] w fun e w' => e = .returned (VE (addS a b c d)) ∧ Below w.heap.size w w' := by
  cases h : (okV a b && okV c d)
  · have e : addS a b c d = (0, 0, 10) := by unfold addS; exact gate_no h
    rw [e]; exact valid_no _ a b c d w h
  · have e : addS a b c d = gate (okV (a + c) (b + d)) (a + c) (b + d) := by unfold addS; rw [h]; rfl
    obtain ⟨h1, h2⟩ : okV a b = true ∧ okV c d = true := by simpa using h
    rw [e]; exact valid_yes _ a b c d _ _ w h1 h2 (fun w' _ => both_add _ _ _ _ _ h1 h2)

def addFrom (x y : Int) : List (Int × Int) → Int × Int × Int
  | [] => (x, y, 0)
  | v :: r => if (addS x y v.1 v.2).2.2 = 0 then addFrom (addS x y v.1 v.2).1 (addS x y v.1 v.2).2.1 r else (0, 0, (addS x y v.1 v.2).2.2)
def addL (l : List (Int × Int)) : Int × Int × Int := addFrom 0 0 l

/-- The slice's cells hold the list's vectors. -/
def CellsV (w : World) (b off : Nat) (l : List (Int × Int)) : Prop :=
  ∀ i, i < l.length → w.cell? ⟨b, off + i * 2, none⟩ = some (.int .i64 (l.getD i (0, 0)).1) ∧ w.cell? ⟨b, off + i * 2 + 1, none⟩ = some (.int .i64 (l.getD i (0, 0)).2)

theorem drop_getD (l : List (Int × Int)) (k : Nat) (h : k < l.length) : l.drop k = l.getD k (0, 0) :: l.drop (k + 1) := by
  rw [List.drop_eq_getElem_cons h, List.getD_eq_getElem?_getD, List.getElem?_eq_getElem h]; rfl

theorem add_some (l : List (Int × Int)) (b off cap : Nat) (w : World) (hb0 : b < w.heap.size) (hl : l.length ≤ 9223372036854775807) (hc0 : CellsV w b off l) :
    Calls Try.prog 61 #[.slice (some ⟨b, off, none⟩) l.length cap] w fun e w' => e = .returned (VE (addL l)) ∧ Below w.heap.size w w' := by
  have HC := hidE hc0; clear hc0
  go_enter Try.func61, Try.ntmps61
  go_wp2
  go_loopw [10] (fun i wr => ∃ k : Nat, ∃ x y : Int, k ≤ l.length ∧ i = .int .i64 k ∧ addFrom x y (l.drop k) = addL l ∧ Below w.heap.size w wr ∧ Blk wr (w.heap.size + 1) #[.int .i64 x, .int .i64 y] 36 ∧ Blk wr w.heap.size #[.int .i64 0, .int .i64 0] 36) (fun i _ => l.length - (intOf i).toNat)
  case atStart => exact ⟨0, 0, 0, Nat.zero_le _, rfl, rfl, by (repeat (first | exact Below.refl _ _ | assumption | refine balloc ?_ _ | refine below_drewN ?_ _ | refine bstep (by assumption) ?_ | refine bstep (Past.prop _) ?_ | refine Below.setCell ?_ (by first | exact Nat.le_refl _ | (simp; done) | (simp; omega)) _)), Blk.made_at _ _ _ _ (by simp), (Blk.made _ _ _).alloc _⟩
  case round =>
    obtain ⟨k, x, y, hk, rfl, hs, hb, s1, s0⟩ := hrel
    have HS := hidE hs; clear hs
    have c10 := s1.cell 0; have c11 := s1.cell 1; have f1 := s1.free; have c00 := s0.cell 0; have c01 := s0.cell 1; have f0 := s0.free
    simp at c10 c11 c00 c01
    have z1 := s1.lt; have z0 := s0.lt
    by_cases hlt : k < l.length
    · have e0 := (HC.out k hlt).1; have e1 := (HC.out k hlt).2
      rw [← hb.cell hb0] at e0 e1
      have HD := hidE (drop_getD l k hlt)
      generalize l.getD k (0, 0) = v at *
      have HG := hidE (vadd x y v.1 v.2)
      have HS' := HS.out
      rw [HD.out] at HS'
      unfold addFrom at HS'
      generalize hg : addS x y v.1 v.2 = g at *
      clear HS hg
      by_cases hg0 : g.2.2 = 0
      · rw [if_pos hg0] at HS'
        have HT := hidE HS'; clear HS'
        have g1 : (g.2.2 == 0) = true := beq_iff_eq.2 hg0
        have g2 : (g.2.2 != 0) = false := by rw [bne_eq_false_iff_eq]; exact hg0
        clear hg0
        go_wp2_with (go_at_call 83; ((with_reducible refine (HG.out _).mono ?_); rintro e w' ⟨rfl, hb2⟩; obtain ⟨hc, hf⟩ := bcell hb2; have y1 := bsz hb2 (w.heap.size + 1) (by simp; omega); have y0 := bsz hb2 (w.heap.size) (by simp; omega)))
        exact ⟨⟨k + 1, g.1, g.2.1, by omega, by go_num, HT.out, by (repeat (first | exact Below.refl _ _ | assumption | refine balloc ?_ _ | refine below_drewN ?_ _ | refine bstep (by assumption) ?_ | refine bstep (Past.prop _) ?_ | refine Below.setCell ?_ (by first | exact Nat.le_refl _ | (simp; done) | (simp; omega)) _)), (((s1.alloc _).past hb2).set 0 _).set 1 _, (((s0.alloc _).past hb2).other (by omega) _).other (by omega) _⟩, by simp [intOf]; omega⟩
      · rw [if_neg hg0] at HS'
        have HT := hidE HS'; clear HS'
        have g1 : (g.2.2 == 0) = false := beq_eq_false_iff_ne.2 hg0
        have g2 : (g.2.2 != 0) = true := bne_iff_ne.2 hg0
        clear hg0
        go_wp2_with (go_at_call 83; ((with_reducible refine (HG.out _).mono ?_); rintro e w' ⟨rfl, hb2⟩; obtain ⟨hc, hf⟩ := bcell hb2; have y1 := bsz hb2 (w.heap.size + 1) (by simp; omega); have y0 := bsz hb2 (w.heap.size) (by simp; omega)))
        have B0 := (((((s0.alloc _).past hb2).other (b := w.heap.size + 1) (i := 0) (by omega) (.int .i64 g.1)).other (b := w.heap.size + 1) (i := 1) (by omega) (.int .i64 g.2.1)).set 0 (.int .i64 0)).set 1 (.int .i64 0)
        have d0 := B0.cell 0; have d1 := B0.cell 1
        simp at d0 d1
        refine bodyPost_ret (v := VE (0, 0, g.2.2)) (by simp [results, Try.results61, go_sem, d0, d1]) rfl ⟨by rw [← HT.out], ?_⟩
        (repeat (first | exact Below.refl _ _ | assumption | refine balloc ?_ _ | refine below_drewN ?_ _ | refine bstep (by assumption) ?_ | refine bstep (Past.prop _) ?_ | refine Below.setCell ?_ (by first | exact Nat.le_refl _ | (simp; done) | (simp; omega)) _))
    · go_wp2
      have : k = l.length := by omega
      subst this
      have e := HS.out
      rw [List.drop_length] at e
      refine bodyPost_ret (v := VE (x, y, 0)) (by simp [results, Try.results61, go_sem, *]) rfl ⟨by rw [← e]; rfl, ?_⟩
      (repeat (first | exact Below.refl _ _ | assumption | refine balloc ?_ _ | refine below_drewN ?_ _ | refine bstep (by assumption) ?_ | refine bstep (Past.prop _) ?_ | refine Below.setCell ?_ (by first | exact Nat.le_refl _ | (simp; done) | (simp; omega)) _))

theorem add_none (w : World) : Calls Try.prog 61 #[.slice none 0 0] w fun e w' => e = .returned (VE (addL [])) ∧ Below w.heap.size w w' := by
  go_enter Try.func61, Try.ntmps61
  go_wp2
  refine wp_loop_rounds 1 ?_
  rw [rounds_succ]
  go_wp2
  refine bodyPost_ret (v := VE (0, 0, 0)) (by simp [results, Try.results61, go_sem, *]) rfl ⟨rfl, ?_⟩
  (repeat (first | exact Below.refl _ _ | assumption | refine balloc ?_ _ | refine below_drewN ?_ _ | refine bstep (by assumption) ?_ | refine bstep (Past.prop _) ?_ | refine Below.setCell ?_ (by first | exact Nat.le_refl _ | (simp; done) | (simp; omega)) _))
end Go.Proofs.Ytgflbidagdcfmaa

namespace Go.Proofs.Ytgflbidagdcfmaa
open Go.ChangeShapes Go.WideShapes Go.ChangeAt Go.RowKit
attribute [local irreducible] Go.Calls

theorem addL_two (a b c d : Int) : addL [(a, b), (c, d)] = addS a b c d := by
  unfold addL addFrom addFrom addFrom
  simp only
  cases h1 : okV a b
  · have e1 : addS 0 0 a b = (0, 0, 10) := by unfold addS; rw [h1]; simp [gate]
    have e2 : addS a b c d = (0, 0, 10) := by unfold addS; rw [h1]; simp [gate]
    rw [e1, e2]; simp
  · have e0 : okV 0 0 = true := by decide
    have e1 : addS 0 0 a b = (a, b, 0) := by unfold addS; rw [h1, e0]; simp [gate, h1]
    rw [e1]
    simp only [if_true]
    by_cases h : (addS a b c d).2.2 = 0
    · rw [if_pos h]; exact Prod.ext rfl (Prod.ext rfl h.symm)
    · rw [if_neg h]
      unfold addS gate at h ⊢
      split
      · rename_i hh; rw [if_pos hh] at h; exact absurd rfl h
      · rfl

theorem plus_c (a b c d : Int) (w : World) : Calls Try.prog 39 #[V a b, V c d] w fun e w' => e = .returned (VE (opV 0 (a, b) (c, d))) ∧ Below w.heap.size w w' := by
  rw [opV_0, ← addL_two]
  generalize hg : addL [(a, b), (c, d)] = g
  have Hg := hidE hg; clear hg
  have HK := hidE (fun w b' hb hc => show Calls Try.prog 61 #[.slice (some ⟨b', 0, none⟩) 2 2] w _ from add_some [(a, b), (c, d)] b' 0 2 w hb (by simp) hc)
  go_enter Try.func39, Try.ntmps39
  go_wp2_with fail
  have B3 : Blk ((((w.alloc (Obj.cells #[Value.int IntKind.i64 a, Value.int IntKind.i64 b] 36)).alloc (Obj.cells #[Value.int IntKind.i64 c, Value.int IntKind.i64 d] 36)).alloc (Obj.cells #[Value.int IntKind.i64 0, Value.int IntKind.i64 0] 36)).alloc (Obj.cells #[Value.int IntKind.i64 a, Value.int IntKind.i64 b, Value.int IntKind.i64 c, Value.int IntKind.i64 d] 36)) (w.heap.size + 1 + 1 + 1) #[.int .i64 a, .int .i64 b, .int .i64 c, .int .i64 d] 36 := Blk.made_at _ _ _ _ (by simp)
  have B2 : Blk ((((w.alloc (Obj.cells #[Value.int IntKind.i64 a, Value.int IntKind.i64 b] 36)).alloc (Obj.cells #[Value.int IntKind.i64 c, Value.int IntKind.i64 d] 36)).alloc (Obj.cells #[Value.int IntKind.i64 0, Value.int IntKind.i64 0] 36)).alloc (Obj.cells #[Value.int IntKind.i64 a, Value.int IntKind.i64 b, Value.int IntKind.i64 c, Value.int IntKind.i64 d] 36)) (w.heap.size + 1 + 1) #[.int .i64 0, .int .i64 0] 36 := (Blk.made_at _ _ _ _ (by simp)).alloc _
  have hcv : CellsV ((((w.alloc (Obj.cells #[Value.int IntKind.i64 a, Value.int IntKind.i64 b] 36)).alloc (Obj.cells #[Value.int IntKind.i64 c, Value.int IntKind.i64 d] 36)).alloc (Obj.cells #[Value.int IntKind.i64 0, Value.int IntKind.i64 0] 36)).alloc (Obj.cells #[Value.int IntKind.i64 a, Value.int IntKind.i64 b, Value.int IntKind.i64 c, Value.int IntKind.i64 d] 36)) (w.heap.size + 1 + 1 + 1) 0 [(a, b), (c, d)] := by
    intro i hi
    simp only [List.length_cons, List.length_nil] at hi
    match i, hi with
    | 0, _ => exact ⟨B3.cell 0, B3.cell 1⟩
    | 1, _ => exact ⟨B3.cell 2, B3.cell 3⟩
  ((with_reducible refine (HK.out _ _ B3.lt hcv).mono ?_); rintro e w1 ⟨rfl, hb⟩)
  rw [Hg.out]
  have B2' := B2.past hb
  have hB : Below w.heap.size w w1 := by (repeat (first | exact Below.refl _ _ | assumption | refine balloc ?_ _ | refine below_drewN ?_ _ | refine bstep (by assumption) ?_ | refine bstep (Past.prop _) ?_ | refine Below.setCell ?_ (by first | exact Nat.le_refl _ | (simp; done) | (simp; omega)) _))
  have p0 := B2'.cell 0; have p1 := B2'.cell 1; have pf := B2'.free; have pz := B2'.lt
  simp at p0 p1
  clear hb B3 B2
  go_wp2
  refine bodyPost_ret (v := VE g) (by simp [results, Try.results39, go_sem, *]) rfl ⟨rfl, ?_⟩
  (repeat (first | exact Below.refl _ _ | assumption | refine balloc ?_ _ | refine below_drewN ?_ _ | refine bstep (by assumption) ?_ | refine bstep (Past.prop _) ?_ | refine Below.setCell ?_ (by first | exact Nat.le_refl _ | (simp; done) | (simp; omega)) _))

end Go.Proofs.Ytgflbidagdcfmaa

namespace Go.Proofs.Ytgflbidagdcfmaa
open Go.ChangeShapes Go.WideShapes Go.ChangeAt Go.RowKit
attribute [local irreducible] Go.Calls

set_option maxHeartbeats 1000000 in
theorem swapRange_c (w0 w : World) (blk n cap a b m : Nat) (t : TypeId) (d : Nat → Nat) (fv : Value) (h : RowW w0 blk n t d w) (hab : a + m ≤ b) (hb : b + m ≤ n) (hn : n ≤ 4611686018427387904) :
    Calls Try.prog 113 #[.slice (some ⟨blk, 0, none⟩) n cap, .int .i64 a, .int .i64 b, .int .i64 m, fv] w fun e w' => e = .returned (.tuple #[]) ∧ RowW w0 blk n t (swr d a b m) w' := by
  have H := hidE h; clear h
  go_enter Try.func113, Try.ntmps113
  go_wp2
  go_loopw [10] (fun i wr => ∃ k : Nat, k ≤ m ∧ i = .int .i64 k ∧ RowW w0 blk n t (swr d a b k) wr) (fun i _ => m - (intOf i).toNat)
  case atStart => exact ⟨0, Nat.zero_le _, rfl, H.out.ext (swr_zero _ _ _).symm⟩
  case round =>
    obtain ⟨k, hk, rfl, hr⟩ := hrel
    by_cases hlt : k < m
    · have c1 := hr.cell (i := a + k) (by omega)
      have c2 := hr.cell (i := b + k) (by omega)
      have c3 := hr.c2 (a + k) (b + k) (by omega) (swr d a b k (b + k))
      have f1 := hr.free (a + k)
      have f2 := hr.free (b + k)
      have hS := hidE ((hr.swap (a + k) (b + k)).drew.ext (swr_step d a b k (by omega)))
      rw [if_neg (by omega)] at c3
      clear hr
      generalize swr d a b k (b + k) = y at *
      generalize swr d a b k (a + k) = x at *
      go_wp2
      go_region
      go_wp2
      go_roundw
      case rel => exact ⟨k + 1, by omega, by go_num, hS.out⟩
      case measure => simp [intOf]; omega
    · go_wp2
      have : k = m := by omega
      subst this
      go_end0
      exact ⟨rfl, hr⟩
end Go.Proofs.Ytgflbidagdcfmaa

namespace Go.Proofs.Ytgflbidagdcfmaa
open Go.ChangeShapes Go.WideShapes Go.ChangeAt Go.RowKit
attribute [local irreducible] Go.Calls

theorem swapRange_eq {w0 w : World} {blk n cap a b m : Nat} {x y z : Int} {t : TypeId} {d d' : Nat → Nat} {fv : Value} (h : RowW w0 blk n t d w) (hx : x = a) (hy : y = b) (hz : z = m) (hab : a + m ≤ b) (hb : b + m ≤ n) (hn : n ≤ 4611686018427387904) (hd : swr d a b m = d') :
    Calls Try.prog 113 #[.slice (some ⟨blk, 0, none⟩) n cap, .int .i64 x, .int .i64 y, .int .i64 z, fv] w fun e w' => e = .returned (.tuple #[]) ∧ RowW w0 blk n t d' w' := by
  subst hx; subst hy; subst hz; subst hd
  exact swapRange_c w0 w blk n cap a b m t d fv h hab hb hn

set_option maxHeartbeats 1000000 in
theorem rotate_c (w0 w : World) (blk n cap a m b : Nat) (t : TypeId) (d : Nat → Nat) (fv : Value) (h : RowW w0 blk n t d w) (ham : a < m) (hmb : m < b) (hb : b ≤ n) (hn : n ≤ 4611686018427387904) :
    Calls Try.prog 112 #[.slice (some ⟨blk, 0, none⟩) n cap, .int .i64 a, .int .i64 m, .int .i64 b, fv] w fun e w' => e = .returned (.tuple #[]) ∧ RowW w0 blk n t (rot d a m b) w' := by
  have H := hidE h; clear h
  go_enter Try.func112, Try.ntmps112
  go_wp2
  go_loopw [10, 11] (fun vi vj wr => ∃ (i j : Nat) (dk : Nat → Nat), vi = .int .i64 i ∧ vj = .int .i64 j ∧ 0 < i ∧ i ≤ m ∧ 0 < j ∧ m + j ≤ n ∧ rot dk (m - i) m (m + j) = rot d a m b ∧ RowW w0 blk n t dk wr) (fun vi vj _ => (intOf vi).toNat + (intOf vj).toNat)
  case atStart => exact ⟨m - a, b - m, d, by go_num, by go_num, by omega, by omega, by omega, by omega, by rw [show m - (m - a) = a by omega, show m + (b - m) = b by omega], H.out⟩
  case round =>
    obtain ⟨i, j, dk, rfl, rfl, hi0, him, hj0, hjn, hrot, hr⟩ := hrel
    have HR := hidE hrot; have HW := hidE hr
    clear hrot hr
    rcases Nat.lt_trichotomy i j with c | c | c
    · have e1 : ((i : Int) == (j : Int)) = false := beq_eq_false_iff_ne.2 (by omega)
      have e2 : ((i : Int) != (j : Int)) = true := bne_iff_ne.2 (by omega)
      have e3 : ¬ (j : Int) < (i : Int) := by omega
      go_wp2_with (go_at_call 113; ((with_reducible refine (swapRange_eq (a := m - i) (b := m + j - i) (m := i) HW.out (by omega) (by omega) rfl (by omega) (by omega) hn rfl).mono ?_); rintro e w' ⟨rfl, hr2⟩))
      go_roundw
      case rel => exact ⟨i, j - i, _, rfl, by go_num, hi0, him, by omega, by omega, (rot_lt dk m i j him c).trans HR.out, hr2⟩
      case measure => simp [intOf]; omega
    · subst c
      go_wp2_with (go_at_call 113; ((with_reducible refine (swapRange_eq (a := m - i) (b := m) (m := i) HW.out (by omega) rfl rfl (by omega) (by omega) hn rfl).mono ?_); rintro e w' ⟨rfl, hr2⟩))
      go_end0
      exact ⟨rfl, hr2.ext ((rot_eq dk m i him).trans HR.out)⟩
    · have e1 : ((i : Int) == (j : Int)) = false := beq_eq_false_iff_ne.2 (by omega)
      have e2 : ((i : Int) != (j : Int)) = true := bne_iff_ne.2 (by omega)
      have e3 : (j : Int) < (i : Int) := by omega
      go_wp2_with (go_at_call 113; ((with_reducible refine (swapRange_eq (a := m - i) (b := m) (m := j) HW.out (by omega) rfl rfl (by omega) (by omega) hn rfl).mono ?_); rintro e w' ⟨rfl, hr2⟩))
      go_roundw
      case rel => exact ⟨i - j, j, _, by go_num, rfl, by omega, by omega, hj0, hjn, (rot_gt dk m i j him c).trans HR.out, hr2⟩
      case measure => simp [intOf]; omega
end Go.Proofs.Ytgflbidagdcfmaa
