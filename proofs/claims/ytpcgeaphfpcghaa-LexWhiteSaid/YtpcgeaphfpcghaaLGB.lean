/- The contract of package lex's Lex. No conditions. The contracts of strings.Builder's WriteByte, WriteString and String, where the builder is the call's own. No conditions but that what it holds is at most 2^47 bytes. The contract of package lex's Text. No conditions but sizes, and that the slice's cells read as tokens. The contracts of package lex, together. A region that draws its order: every operation but a forced tail may run in whatever order; each is asked only what its own operands need. No conditions. The contract of liveryref06.Same. No conditions. The texts whose tokens the document fixes: the statements' own head and bad. No conditions. Two strings side by side. No conditions but their length. The contracts of the document's own answer that layer 6's statements reach: White, and the statements' own digits. No conditions. -/
import Derived.Test.YtpcgeaphfpcghaaLGA
import Derived.Shelf.Strings.BuilderK
import Derived.Test.YtpcgeaphfpcghaaProg
import Derived.Deep.Quiet
import Derived.Deep.RegionHeld3
import Derived.Test.YtpcgeaphfpcghaaLMA
import Derived.Laws.Concat
namespace Go.Proofs.Ytpcgeaphfpcghaa
open Go.ChangeShapes Go.WideShapes Go.ChangeAt Go.RowKit Go.Shelf
attribute [local irreducible] Go.Calls
attribute [local go_sem] Oper.semAt_some

theorem Blk.putO {w : World} {k : Nat} {cs : Array Value} {t : TypeId} (h : Blk w k cs t) {b : Nat} (hb : k ≠ b) (o : Obj) : Blk (w.putObj b o) k cs t := (World.putObj_heap_other hb).trans h
theorem Try.infoTokL : (Try.prog.info? 30).map (fun i => (i.zero, i.size, i.bytes)) = some (some (.agg #[.int .u8 0, .string ⟨#[]⟩, .int .i64 0, .int .i64 0]), 4, 40) := by kernel_rfl
/-- Between two rounds. -/
structure LexI (w : World) (s : List UInt8) (KB P6 PS p1 p2 p3 : Nat) (pre : List (Nat × List UInt8)) (g : Option (Nat × Nat)) (W : World) : Prop where
  own : OwnI w (w.heap.size + 1 + 1 + 1) 22 30 4 pre.length (cellsOfT (pre.map tokI)) g W
  r0 : Blk W w.heap.size #[.slice none 0 0] 22
  r1 : Blk W (w.heap.size + 1) #[.int .i64 0] 3
  r2 : Blk W (w.heap.size + 1 + 1) #[.int .i64 0] 23
  ks : KindsAt W KB p1 p2 p3
  al : Blk W P6 #[.slice (some ⟨KB, 0, none⟩) 5 5] 42
  st : Blk W PS #[strV s] 9
  ok : ∀ x ∈ pre, (kindOf x.2).isSome = true
  base : ∀ b k, g = some (b, k) → PS < b
/-- A round has left. -/
def LexX (w : World) (pre : List (Nat × List UInt8)) (W : World) : Prop :=
  ∃ pre' x, pre = pre' ++ [x] ∧ (∀ y ∈ pre', (kindOf y.2).isSome = true) ∧ kindOf x.2 = none ∧ Below w.heap.size w W ∧ Blk W w.heap.size #[.slice none 0 0] 22 ∧ Blk W (w.heap.size + 1) #[.int .i64 x.1] 3 ∧ Blk W (w.heap.size + 1 + 1) #[.int .i64 60] 23
theorem lexI_keep {w : World} {s : List UInt8} {KB P6 PS p1 p2 p3 n : Nat} {pre : List (Nat × List UInt8)} {g : Option (Nat × Nat)} {A B : World} (hn : w.heap.size + 1 + 1 + 1 < n) (h1 : KB < n) (h2 : P6 < n) (h3 : PS < n) (h4 : p1 < n) (h5 : p2 < n) (h6 : p3 < n)
    (h : LexI w s KB P6 PS p1 p2 p3 pre g A) (hb : Below n A B) (hk : ∀ b k, g = some (b, k) → B.heap[k]? = A.heap[k]?) : LexI w s KB P6 PS p1 p2 p3 pre g B :=
  ⟨ownI_keep (m := n) hn (by omega) h.own hb hk, h.r0.below hb (by omega), h.r1.below hb (by omega), h.r2.below hb (by omega), h.ks.below hb h1 h4 h5 h6, h.al.below hb h2, h.st.below hb h3, h.ok, h.base⟩
theorem lexX_keep {w : World} {pre : List (Nat × List UInt8)} {A B : World} {n : Nat} (hn : w.heap.size + 1 + 1 < n) (h : LexX w pre A) (hb : Below n A B) : LexX w pre B := by
  obtain ⟨pre', x, h1, h2, h3, h4, h5, h6, h7⟩ := h
  exact ⟨pre', x, h1, h2, h3, h4.trans (hb.mono (by omega)), h5.below hb (by omega), h6.below hb (by omega), h7.below hb (by omega)⟩
theorem lexS_items {s : List UInt8} (h : ¬ 4096 < s.length) : (∀ x r pre, itemsG s.length 0 s = pre ++ x :: r → (∀ y ∈ pre, (kindOf y.2).isSome = true) → kindOf x.2 = none → lexS s = ([], x.1, 60)) ∧ ((∀ y ∈ itemsG s.length 0 s, (kindOf y.2).isSome = true) → lexS s = ((itemsG s.length 0 s).map tokI, 0, 0)) := by
  unfold lexS
  rw [if_neg h, lex_all]
  refine ⟨fun x r pre he h1 h2 => ?_, fun h1 => ?_⟩
  · rw [he, lexI_no pre x r h1 h2]
  · rw [lexI_ok _ h1]
theorem kO_some {t : List UInt8} (h : (kindOf t).isSome = true) (p : Nat) : (kO t).2.2 = true ∧ tokI (p, t) = ⟨(kO t).1, t, (kO t).2.1, p⟩ := by
  unfold kO tokI
  cases hk : kindOf t with
  | none => rw [hk] at h; cases h
  | some k => simp
theorem kO_nope {t : List UInt8} (h : kindOf t = none) : kO t = (0, 0, false) := by unfold kO; rw [h]
theorem cells_snoc (pre : List (Nat × List UInt8)) (x : Nat × List UInt8) : cellsOfT ((pre ++ [x]).map tokI) = cellsOfT (pre.map tokI) ++ [.int .u8 (tokI x).kind, strV (tokI x).text, .int .i64 (tokI x).num, .int .i64 (tokI x).pos] := by
  rw [List.map_append, cellsOfT_app]
  rfl

set_option maxRecDepth 100000 in
set_option maxHeartbeats 2000000 in
theorem lex_c (s : List UInt8) (w : World) (hs : s.length ≤ 9223372036854775807) : Calls Try.prog 6 #[strV s] w (LexIs w (lexS s).1 (lexS s).2.1 (lexS s).2.2) := by
  have slen : (⟨s.toArray⟩ : ByteArray).size = s.length := by simp [ByteArray.size]
  by_cases hlong : 4096 < s.length
  · have HE := hidE (show lexS s = ([], 0, 3) by unfold lexS; rw [if_pos hlong])
    have d1 : decide ((4096 : Int) < (s.length : Int)) = true := decide_eq_true (by omega)
    have d1' : decide (4096 < s.length) = true := decide_eq_true hlong
    rw [HE.out]
    clear HE hlong
    go_enter Try.func6, Try.ntmps6
    go_wp2
    refine bodyPost_ret (v := .tuple #[.slice none 0 0, .int .i64 0, .int .i64 3]) (by simp [results, Try.results6, go_sem]) rfl ⟨_, rfl, sliT_nil _, ?_⟩
    (repeat (first | exact Below.refl _ _ | assumption | refine balloc ?_ _ | refine below_drewN ?_ _ | refine bstep (by assumption) ?_ | refine bstep (Past.prop _) ?_ | refine Below.setCell ?_ (by first | exact Nat.le_refl _ | (simp; done) | (simp; omega)) _))
  have d1 : decide ((4096 : Int) < (s.length : Int)) = false := decide_eq_false (by omega)
  have d1' : decide (4096 < s.length) = false := decide_eq_false hlong
  have HKI := hidE (fun w => kinds_c w)
  refine (callsIn_wide (n := 0)).1 (callsIn_of_wp_marks Try.func6 rfl trivial ((wpIn_wide (n := 0)).2 ?_))
  simp only [Try.ntmps6, List.size_toArray, List.length_cons, List.length_nil, Nat.reduceAdd, Nat.reduceSub, Array.replicate_succ, Array.replicate_zero, List.push_toArray, List.append_toArray, List.nil_append, List.cons_append]
  go_wp2_with fail
  ((with_reducible refine (HKI.out _).mono ?_); rintro e w1 ⟨rfl, hb1, hk0, hk1, hk2, hk3⟩)
  go_wp2
  simp only [World.size_alloc] at hb1 hk0 hk1 hk2 hk3
  obtain ⟨w0, hw0⟩ : ∃ w0, w0 = (((w.alloc (Obj.cells #[Value.slice none 0 0] 22)).alloc (Obj.cells #[Value.int IntKind.i64 0] 3)).alloc (Obj.cells #[Value.int IntKind.i64 0] 23)).alloc (Obj.cells #[Value.slice none 0 0] 22) := ⟨_, rfl⟩
  have q0 : Blk w0 w.heap.size #[.slice none 0 0] 22 := hw0 ▸ (((Blk.made _ _ _).alloc _).alloc _).alloc _
  have q1 : Blk w0 (w.heap.size + 1) #[.int .i64 0] 3 := hw0 ▸ ((Blk.made_at _ _ _ _ (by simp)).alloc _).alloc _
  have q2 : Blk w0 (w.heap.size + 1 + 1) #[.int .i64 0] 23 := hw0 ▸ (Blk.made_at _ _ _ _ (by simp)).alloc _
  have q3 : Blk w0 (w.heap.size + 1 + 1 + 1) #[.slice none 0 0] 22 := hw0 ▸ Blk.made_at _ _ _ _ (by simp)
  have hb0 : Below w.heap.size w w0 := by rw [hw0]; (repeat (first | exact Below.refl _ _ | assumption | refine balloc ?_ _ | refine below_drewN ?_ _ | refine bstep (by assumption) ?_ | refine bstep (Past.prop _) ?_ | refine Below.setCell ?_ (by first | exact Nat.le_refl _ | (simp; done) | (simp; omega)) _))
  have hz0 : w0.heap.size = w.heap.size + 1 + 1 + 1 + 1 := by rw [hw0]; simp
  rw [← hw0, ← hz0] at hb1
  clear hw0
  obtain ⟨KB, hKB⟩ : ∃ KB, KB = w.heap.size + 1 + 1 + 1 + 1 + 3 := ⟨_, rfl⟩
  obtain ⟨p1, hp1⟩ : ∃ p1, p1 = w.heap.size + 1 + 1 + 1 + 1 := ⟨_, rfl⟩
  rw [← hKB, ← hp1] at hk0
  rw [← hp1] at hk1 hk2 hk3
  rw [← hKB]
  have ks : KindsAt w1 KB p1 (p1 + 1) (p1 + 2) := ⟨hk0, hk1, hk2, hk3⟩
  have hb : Below w.heap.size w w1 := hb0.trans (hb1.mono hb0.size)
  have z1 : w.heap.size + 1 + 1 + 1 < w1.heap.size := by have := hb1.size; omega
  have q0 := q0.past hb1; have q1 := q1.past hb1; have q2 := q2.past hb1; have q3 := q3.past hb1
  have zK := ks.all.lt; have z2 := ks.m1.lt; have z3 := ks.m2.lt; have z4 := ks.m3.lt
  have n1 : w.heap.size + 1 + 1 + 1 < p1 := by omega
  have n2 : w.heap.size + 1 + 1 + 1 < KB := by omega
  clear hk0 hk1 hk2 hk3 hKB hp1 hb0 hb1 hz0 HKI
  obtain ⟨w5, hw5⟩ : ∃ w5, w5 = (w1.alloc (Obj.cells #[Value.slice (some ⟨KB, 0, none⟩) 5 5] 42)).alloc (Obj.cells #[strV s] 9) := ⟨_, rfl⟩
  have qA : Blk w5 w1.heap.size #[.slice (some ⟨KB, 0, none⟩) 5 5] 42 := hw5 ▸ (Blk.made _ _ _).alloc _
  have qS : Blk w5 (w1.heap.size + 1) #[strV s] 9 := hw5 ▸ Blk.made_at _ _ _ _ (by simp)
  have hb5 : Below w1.heap.size w1 w5 := by rw [hw5]; (repeat (first | exact Below.refl _ _ | assumption | refine balloc ?_ _ | refine below_drewN ?_ _ | refine bstep (by assumption) ?_ | refine bstep (Past.prop _) ?_ | refine Below.setCell ?_ (by first | exact Nat.le_refl _ | (simp; done) | (simp; omega)) _))
  have hz5 : w5.heap.size = w1.heap.size + 1 + 1 := by rw [hw5]; simp
  rw [← hw5]
  clear hw5
  have hI0 : LexI w s KB w1.heap.size (w1.heap.size + 1) p1 (p1 + 1) (p1 + 2) [] none w5 :=
    ⟨⟨.slice none 0 0, w5.heap.size, q3.past hb5, hb.trans (hb5.mono hb.size), own_nil _ _ _, by omega, Nat.le_refl _, .inl ⟨rfl, rfl⟩⟩, q0.past hb5, q1.past hb5, q2.past hb5, ks.past hb5, qA, qS, fun x hx => by simp at hx, fun b k e => by cases e⟩
  have HBB := hidE (hb.trans (hb5.mono hb.size))
  have HLS := hidE (lexS_items hlong)
  have HLN := hidE (items_len (s := s) s.length 0)
  have HMEM := hidE (fun x hx => items_mem (s := s) s.length 0 x hx)
  have HS4 := hidE (show s.length ≤ 4096 by omega)
  clear q0 q1 q2 q3 ks hb hb5 qA qS hlong d1 d1' hs
  refine wp_rangeFunc_X (n₀ := w.heap.size) (S := itemsG s.length 0 s) rfl (enters_of Try.func26 (by kernel_rfl) rfl) HBB.out.size (runs_c s (w1.heap.size + 1) w.heap.size w5 (by have := HS4.out; omega)) (fun _ => rfl)
    (LexI w s KB w1.heap.size (w1.heap.size + 1) p1 (p1 + 1) (p1 + 2)) (fun s g A B h hb hk => lexI_keep (n := w5.heap.size) (by omega) (by omega) (by omega) (by omega) (by omega) (by omega) (by omega) h hb hk) (fun s g A h => ownI_own h.own) (fun s g A h => h.st) hI0
    (LexX w) (fun s A B h hb => lexX_keep (n := w5.heap.size) (by omega) h hb)
    (fun x a1 W => ∃ (u0 u1 u9 u10 u11 u12 u13 u14 u15 u16 u17 u18 u19 u20 u21 u22 u23 u24 u25 u26 u27 u28 u29 u30 u31 u32 u33 u34 u35 u36 u37 u38 : Value), a1 = { tmps := #[u0, u1, .pointer (some ⟨w.heap.size, 0, none⟩), .pointer (some ⟨w.heap.size + 1, 0, none⟩), .pointer (some ⟨w.heap.size + 1 + 1, 0, none⟩), .pointer (some ⟨w.heap.size + 1 + 1 + 1, 0, none⟩), .pointer (some ⟨w1.heap.size, 0, none⟩), .int .i64 x.1, strV x.2, u9, u10, u11, u12, u13, u14, u15, u16, u17, u18, u19, u20, u21, u22, u23, u24, u25, u26, u27, u28, u29, u30, u31, u32, u33, u34, u35, u36, u37, u38], defers := [] })
    ?hax ?assign ?body ?done ?stop
  case hax =>
    rintro x a1 A l r o ⟨u0, u1, u9, u10, u11, u12, u13, u14, u15, u16, u17, u18, u19, u20, u21, u22, u23, u24, u25, u26, u27, u28, u29, u30, u31, u32, u33, u34, u35, u36, u37, u38, h3⟩ hlr
    exact ⟨_, _, _, _, _, _, _, _, _, _, _, _, _, _, _, _, _, _, _, _, _, _, _, _, _, _, _, _, _, _, _, _, h3⟩
  case assign =>
    intro l pre x g W K hsz hi hK
    dsimp only [encR]
    gi_wp2
    exact hK _ _ (Below.refl _ _) hi ⟨_, _, _, _, _, _, _, _, _, _, _, _, _, _, _, _, _, _, _, _, _, _, _, _, _, _, _, _, _, _, _, _, rfl⟩
  case body =>
    rintro l pre x g a1 W hsz hi ⟨u0, u1, u9, u10, u11, u12, u13, u14, u15, u16, u17, u18, u19, u20, u21, u22, u23, u24, u25, u26, u27, u28, u29, u30, u31, u32, u33, u34, u35, u36, u37, u38, rfl⟩ hpre
    obtain ⟨pre0, hpre0⟩ := hpre
    have hmem : x ∈ itemsG s.length 0 s := by rw [← hpre0]; simp
    have hx4 : x.2.length ≤ 4096 := by have := (HMEM.out x hmem).1; have := HS4.out; omega
    have hlen : pre.length < 4096 := by
      have := HLN.out
      have := HS4.out
      have h3 := congrArg List.length hpre0
      simp only [List.length_append, List.length_cons, List.length_nil] at h3
      omega
    have HKO := hidE (kindof_c x.2 KB p1 (p1 + 1) (p1 + 2) W (by omega) hi.ks)
    have ca := hi.al.cell 0; have cz := hi.al.lt
    simp at ca
    clear hI0 HLS HLN HMEM hmem hpre0
    cases hk : kindOf x.2 with
    | none =>
      rw [kO_nope hk] at HKO
      gi_wp2_with fail
      refine ⟨trivial, rfl, (CallsIn.inRound l (callsIn_wide.2 HKO.out)).mono ?_⟩
      rintro e w3 ⟨rfl, hb3⟩
      have q0 := hi.r0.past hb3; have q1 := hi.r1.past hb3; have q2 := hi.r2.past hb3
      have y0 := q0.cell 0; have y1 := q1.cell 0; have y2 := q2.cell 0; have f0 := q0.free; have f1 := q1.free; have f2 := q2.free; have x0 := q0.lt; have x1 := q1.lt; have x2 := q2.lt
      simp at y0 y1 y2
      have hbW : Below w.heap.size w W := by obtain ⟨_, _, _, h, _⟩ := hi.own; exact h
      have hok := hi.ok
      have HB3 := hidE (hbW.trans (hb3.mono hbW.size)); have HW3 := hidE hb3
      have Q0 := hidE q0; have Q1 := hidE q1; have Q2 := hidE q2
      clear hi q0 q1 q2 hb3 hbW ca cz
      gi_wp2
      refine ⟨⟨pre, x, rfl, hok, hk, ?_, ?_, ?_, ?_⟩, fun k h1 h2 h0 => ?_⟩
      · exact ((HB3.out.setCell (p := ⟨w.heap.size, 0, none⟩) (Nat.le_refl _) _).setCell (p := ⟨w.heap.size + 1, 0, none⟩) (by simp) _).setCell (p := ⟨w.heap.size + 1 + 1, 0, none⟩) (by simp; omega) _
      · simpa using ((Q0.out.set 0 (.slice none 0 0)).other (b := w.heap.size + 1) (i := 0) (by omega) (.int .i64 x.1)).other (b := w.heap.size + 1 + 1) (i := 0) (by omega) (.int .i64 60)
      · simpa using ((Q1.out.other (b := w.heap.size) (i := 0) (by omega) (.slice none 0 0)).set 0 (.int .i64 x.1)).other (b := w.heap.size + 1 + 1) (i := 0) (by omega) (.int .i64 60)
      · simpa using ((Q2.out.other (b := w.heap.size) (i := 0) (by omega) (.slice none 0 0)).other (b := w.heap.size + 1) (i := 0) (by omega) (.int .i64 x.1)).set 0 (.int .i64 60)
      · exact (keptS (by omega) _).trans ((keptS (by omega) _).trans ((keptS (by omega) _).trans (HW3.out.block k (by omega))))
    | some kk =>
      have hks : (kindOf x.2).isSome = true := by rw [hk]; rfl
      obtain ⟨hko, htk⟩ := kO_some hks x.1
      have HSN := hidE (cells_snoc pre x)
      rw [show tokI x = _ from htk] at HSN
      clear htk
      gi_wp2_with fail
      refine ⟨trivial, rfl, (CallsIn.inRound l (callsIn_wide.2 HKO.out)).mono ?_⟩
      rintro e w3 ⟨rfl, hb3⟩
      rw [hko]
      generalize (kO x.2).1 = kd at *
      generalize (kO x.2).2.1 = nm at *
      clear hko HKO hk
      have hz3 := hb3.size
      have hown3 : OwnI w (w.heap.size + 1 + 1 + 1) 22 30 4 pre.length (cellsOfT (pre.map tokI)) g w3 := ownI_keep (m := w5.heap.size) (by omega) (by have := HBB.out.size; omega) hi.own (hb3.mono hsz) (fun b k e => hb3.block k (ownI_own hi.own b k e).2)
      obtain ⟨av, cp, γ, i1, i2, i3, i4, i5, i6, i7⟩ := ownI_base hown3
      have t0 := i1.cell 0; have t1 := i1.lt; have tf := i1.free
      simp at t0
      obtain ⟨ix, hix, hz0, hzz, hz4⟩ := info_parts Try.infoTokL
      have HI := hidE hix; have HZ0 := hidE hz0; have HZ1 := hidE hzz; have HZ2 := hidE hz4
      have I1 := hidE i1; have I2 := hidE i2; have I3 := hidE i3; have I6 := hidE i6; have I7 := hidE i7; have HB3 := hidE hb3; have HLI := hidE hi
      have HG0 := hidE (fun b k (e : g = some (b, k)) => ownI_own hi.own b k e)
      clear hi hix hz0 hzz hz4 i1 i2 i3 i6 i7 hb3 hown3 ca cz
      gi_wp2_with (gi_at_builtin; refine wpListIn_append_own _ rfl (.tmp 30) (.tmp 36) 22 rfl γ 30 ix (.agg #[.int .u8 0, .string ⟨#[]⟩, .int .i64 0, .int .i64 0]) 4 40 Try.underlying22 HI.out HZ0.out HZ1.out HZ2.out rfl (by decide) _ _ _ rfl (own_kept I3.out (fun k e => keptA (own_lt I3.out e) _)) ⟨_, 0, none⟩ 1 1 [.int .u8 kd, strV x.2, .int .i64 nm, .int .i64 x.1] rfl rfl (new_cellsT _ #[.int .u8 kd, strV x.2, .int .i64 nm, .int .i64 x.1] 30) (by intro y hy; simp at hy; rcases hy with rfl | rfl | rfl | rfl <;> rfl) (by unfold maxLen; omega) (by omega) (by simp; omega) ?_; intro v4 w4 hown4 hgrow4 hnil4; obtain ⟨a4, c4, rfl⟩ := own_sli hown4; have HG4 := hidE hgrow4; have HO4 := hidE hown4; have HN4 := hidE hnil4; have BP4 : Blk w4 (w.heap.size + 1 + 1 + 1) #[.slice av pre.length cp] 22 := (I1.out.alloc _).grown HG4.out (fun e => by have := (I6.out _ e.symm).2; omega); have g4 := BP4.cell 0; have g5 := BP4.free; have g6 := BP4.lt; simp at g4; have HB4 := hidE BP4; clear hgrow4 hown4 hnil4 BP4 t0 t1 tf)
      have hv4 : (Value.slice a4 (pre.length + 1) c4) ≠ .slice none 0 0 := fun e => by have := (HN4.out.1 e).2; omega
      obtain ⟨k4, hk4⟩ := own_has HO4.out hv4
      have hγ : w1.heap.size + 1 < γ := by
        rcases I7.out with h | ⟨j, h⟩
        · omega
        · exact HLI.out.base _ _ h
      have HGA := hidE (show ∀ k, (Value.slice av pre.length cp).ownBlock = some k → γ ≤ k from fun k e => (I6.out k e).2)
      have hown : (w4.setCell ⟨w.heap.size + 1 + 1 + 1, 0, none⟩ (Value.slice a4 (pre.length + 1) c4)).ownsRow γ 30 4 (Value.slice a4 (pre.length + 1) c4) (pre ++ [x]).length (cellsOfT ((pre ++ [x]).map tokI)) := by
        rw [HSN.out, List.length_append]
        exact own_kept HO4.out (fun k e => keptS (by have := own_block HO4.out e; omega) _)
      have hz4 : w3.heap.size ≤ w4.heap.size := by have := HG4.out.size; simp at this; omega
      have hzw := I2.out.size
      have hb4 : Below w.heap.size w3 (w4.setCell ⟨w.heap.size + 1 + 1 + 1, 0, none⟩ (Value.slice a4 (pre.length + 1) c4)) :=
        (Below.grown ((Below.refl _ w3).alloc (by omega) _) HG4.out (by simp; omega) (fun k e => by have := HGA.out k e; omega)).setCell (p := ⟨w.heap.size + 1 + 1 + 1, 0, none⟩) (by simp; omega) _
      have hq : ∀ {k : Nat} {cs : Array Value} {t : TypeId}, Blk W k cs t → k ≤ w1.heap.size + 1 → k ≠ w.heap.size + 1 + 1 + 1 → Blk (w4.setCell ⟨w.heap.size + 1 + 1 + 1, 0, none⟩ (Value.slice a4 (pre.length + 1) c4)) k cs t := fun h h1 h2 =>
        (((h.past HB3.out).alloc _).grown HG4.out (fun e => by have := HGA.out _ e.symm; omega)).other h2 _
      refine ⟨some (γ, k4), ⟨⟨(Value.slice a4 (pre.length + 1) c4), γ, by simpa using HB4.out.set 0 (Value.slice a4 (pre.length + 1) c4), I2.out.trans hb4, hown, i4, by simp [World.setCell]; omega, .inr ⟨k4, rfl, hk4⟩⟩, hq HLI.out.r0 (by omega) (by omega), hq HLI.out.r1 (by omega) (by omega), hq HLI.out.r2 (by omega) (by omega), ⟨hq HLI.out.ks.all (by omega) (by omega), hq HLI.out.ks.m1 (by omega) (by omega), hq HLI.out.ks.m2 (by omega) (by omega), hq HLI.out.ks.m3 (by omega) (by omega)⟩, hq HLI.out.al (by omega) (by omega), hq HLI.out.st (by omega) (by omega), ?_, ?_⟩, (HB3.out.mono (by omega)).trans hb4, fun k e1 e2 e3 => ?_, fun b k e => ?_⟩
      · intro y hy
        rcases List.mem_append.1 hy with h | h
        · exact HLI.out.ok y h
        · simp at h; subst h; exact hks
      · intro b k e
        cases e
        exact hγ
      · refine (keptS (by omega) _).trans ((HG4.out.block k (by simp; omega) (fun e => ?_)).trans ((keptA (by omega) _).trans (HB3.out.block k e2)))
        exact e3 _ (I6.out k e.symm).1
      · cases e
        rcases I7.out with h | h
        · exact .inl (by omega)
        · exact .inr h
  case done =>
    rintro D g W hD hi hgd hK
    obtain ⟨av, cp, γ, i1, i2, i3, i4, i5, i6, i7⟩ := ownI_base hi.own
    obtain rfl : D = w1.heap.size + 1 + 1 := hD.trans hz5
    have hDz : w1.heap.size + 1 + 1 < W.heap.size := (Array.getElem?_eq_some_iff.1 hK).1
    have HLS2 := hidE (HLS.out.2 hi.ok)
    have c0 := i1.cell 0; have z3' := i1.lt
    have y0 := hi.r0.cell 0; have y1 := hi.r1.cell 0; have y2 := hi.r2.cell 0; have f0 := hi.r0.free; have f1 := hi.r1.free; have f2 := hi.r2.free; have x0 := hi.r0.lt; have x1 := hi.r1.lt; have x2 := hi.r2.lt
    simp at c0 y0 y1 y2
    have hgD : ∀ k, (Value.slice av (itemsG s.length 0 s).length cp).ownBlock = some k → (w1.heap.size + 1 + 1) + 2 ≤ k := fun k e => by
      obtain ⟨q1, q2⟩ := i6 k e
      have := hgd _ _ q1
      omega
    have hkf : (((W.setCell ⟨w.heap.size, 0, none⟩ (.slice av (itemsG s.length 0 s).length cp)).setCell ⟨w.heap.size + 1, 0, none⟩ (.int .i64 0)).setCell ⟨w.heap.size + 1 + 1, 0, none⟩ (.int .i64 0)).heap[w1.heap.size + 1 + 1]? = some (.deferred (some [])) :=
      (keptS (by omega) _).trans ((keptS (by omega) _).trans ((keptS (by omega) _).trans hK))
    have r0 := ((((hi.r0.set 0 (.slice av (itemsG s.length 0 s).length cp)).other (b := w.heap.size + 1) (i := 0) (by omega) (.int .i64 0)).other (b := w.heap.size + 1 + 1) (i := 0) (by omega) (.int .i64 0)).putO (b := w1.heap.size + 1 + 1) (by omega) (.deferred none)).cell 0
    have r1 := ((((hi.r1.other (b := w.heap.size) (i := 0) (by omega) (.slice av (itemsG s.length 0 s).length cp)).set 0 (.int .i64 0)).other (b := w.heap.size + 1 + 1) (i := 0) (by omega) (.int .i64 0)).putO (b := w1.heap.size + 1 + 1) (by omega) (.deferred none)).cell 0
    have r2 := ((((hi.r2.other (b := w.heap.size) (i := 0) (by omega) (.slice av (itemsG s.length 0 s).length cp)).other (b := w.heap.size + 1) (i := 0) (by omega) (.int .i64 0)).set 0 (.int .i64 0)).putO (b := w1.heap.size + 1 + 1) (by omega) (.deferred none)).cell 0
    simp at r0 r1 r2
    have R0 := hidE r0; have R1 := hidE r1; have R2 := hidE r2; have HKF := hidE hkf; have HO := hidE i3; have HB := hidE i2; have HGD := hidE hgD
    clear hI0 hi i1 i3 i2 i6 i7 hgd hK hgD hkf r0 r1 r2 HLS HMEM hD
    go_wp2
    refine ⟨by simp, .inl ⟨_, _, rfl, run_takeDeferred HKF.out, ?_⟩⟩
    refine ⟨.tuple #[.slice av (itemsG s.length 0 s).length cp, .int .i64 0, .int .i64 0], by simp [results, Try.results6, go_sem, R0.out, R1.out, R2.out], ?_⟩
    rw [HLS2.out]
    refine ⟨_, rfl, ?_, ?_⟩
    · have hO := own_kept (B := (((W.setCell ⟨w.heap.size, 0, none⟩ (.slice av (itemsG s.length 0 s).length cp)).setCell ⟨w.heap.size + 1, 0, none⟩ (.int .i64 0)).setCell ⟨w.heap.size + 1 + 1, 0, none⟩ (.int .i64 0)).putObj (w1.heap.size + 1 + 1) (.deferred none)) HO.out (fun k e => by
        have := HGD.out k e
        exact (World.putObj_heap_other (by omega)).trans ((keptS (by omega) _).trans ((keptS (by omega) _).trans (keptS (by omega) _))))
      have hlm : (itemsG s.length 0 s).length = ((itemsG s.length 0 s).map tokI).length := by rw [List.length_map]
      rw [hlm] at hO ⊢
      exact sliT_own hO
    · exact (((HB.out.setCell (p := ⟨w.heap.size, 0, none⟩) (Nat.le_refl _) _).setCell (p := ⟨w.heap.size + 1, 0, none⟩) (by simp) _).setCell (p := ⟨w.heap.size + 1 + 1, 0, none⟩) (by simp; omega) _).trans (below_putObj _ _ _ (by omega))
  case stop =>
    rintro D pre W hD hpre ⟨pre', x, rfl, h2, h3, h4, h5, h6, h7⟩ hK
    have HE := hidE (show lexS s = ([], x.1, 60) by
      obtain ⟨r, hr⟩ := hpre
      exact HLS.out.1 x r pre' (by rw [← hr]; simp) h2 h3)
    have r0 := (h5.putO (b := D) (by omega) (.deferred none)).cell 0
    have r1 := (h6.putO (b := D) (by omega) (.deferred none)).cell 0
    have r2 := (h7.putO (b := D) (by omega) (.deferred none)).cell 0
    simp at r0 r1 r2
    have R0 := hidE r0; have R1 := hidE r1; have R2 := hidE r2; have HB := hidE h4
    clear hI0 r0 r1 r2 h5 h6 h7 h4 h2 h3 hpre HLS HMEM
    go_wp2
    refine ⟨by simp, .inl ⟨_, _, rfl, run_takeDeferred hK, ?_⟩⟩
    refine ⟨.tuple #[.slice none 0 0, .int .i64 x.1, .int .i64 60], by simp [results, Try.results6, go_sem, R0.out, R1.out, R2.out], ?_⟩
    rw [HE.out]
    exact ⟨_, rfl, sliT_nil _, HB.out.trans (below_putObj _ _ _ (by omega))⟩
end Go.Proofs.Ytpcgeaphfpcghaa

namespace Go.Proofs.Ytpcgeaphfpcghaa
open Go.ChangeShapes Go.WideShapes Go.ChangeAt Go.RowKit Go.Shelf
attribute [local irreducible] Go.Calls

def Try.bren : Go.Shelf.Ren := ⟨fun | 169 => 21 | n => n, fun | 70 => 49 | 9 => 9 | 0 => 0 | 72 => 51 | 37 => 33 | 127 => 66 | 3 => 3 | 5 => 5 | n => n, fun | n => n⟩
theorem Try.blays : Go.Proofs.Lays.n169 Try.prog Try.bren := {
  mixed := by kernel_rfl
  f169 := Try.func21.trans (congrArg some (by kernel_rfl))
  t0 := Try.underlying0
  a0 := Try.isAgg0
  z0 := Try.sizeOf0
  v0 := Try.zeroValue0
  t3 := Try.underlying3
  a3 := Try.isAgg3
  z3 := Try.sizeOf3
  v3 := Try.zeroValue3
  t9 := Try.underlying9
  a9 := Try.isAgg9
  z9 := Try.sizeOf9
  v9 := Try.zeroValue9
  t37 := Try.underlying33
  a37 := Try.isAgg33
  z37 := Try.sizeOf33
  v37 := Try.zeroValue33
  t70 := Try.underlying49
  a70 := Try.isAgg49
  z70 := Try.sizeOf49
  v70 := Try.zeroValue49
  t72 := Try.underlying51
  a72 := Try.isAgg51
  z72 := Try.sizeOf51
  v72 := Try.zeroValue51
  t127 := Try.underlying66
  a127 := Try.isAgg66
  z127 := Try.sizeOf66
  v127 := Try.zeroValue66
  }
theorem Try.bextra : Builder.Extra Try.prog Try.bren := {
  sizeBuilder := by kernel_rfl
  liesBuilder := by kernel_rfl
  t5 := Try.underlying5
  a5 := Try.isAgg5
  z5 := Try.sizeOf5
  v5 := Try.zeroValue5
  infoByte := by kernel_rfl
  cellsByte := by kernel_rfl
  sizeByte := by kernel_rfl
  neB5 := by decide }
/-- A builder that the call has made, in block b, with its bytes. -/
abbrev BldI (B b : Nat) (l : List UInt8) (w : World) : Prop := Lib.IsBuilderF 51 5 B b (Lib.byteCells l) w
theorem bld_string (B b : Nat) (l : List UInt8) (w : World) (h : BldI B b l w) (hB : B ≤ w.heap.size) :
    Calls Try.prog 21 #[.pointer (some ⟨b, 0, none⟩)] w fun e w' => e = .returned (strV l) ∧ Below B w w' :=
  (Any.Builder_String_any_k Try.blays Try.bextra B b l w h hB).mono fun _ _ ⟨h1, _, h2, _⟩ => ⟨h1, h2⟩
theorem Try.infoBld : (Try.prog.info? 51).map (·.size) = some 2 := by kernel_rfl
theorem Try.infoU8 : (Try.prog.info? 5).map (fun i => (i.zero, i.size, i.bytes)) = some (some (.int .u8 0), 1, 1) := by kernel_rfl
set_option maxHeartbeats 1000000 in
set_option maxRecDepth 100000 in
theorem bld_check (B b : Nat) (bs : List Value) (w : World) (h : Lib.IsBuilderF 51 5 B b bs w) :
    Calls Try.prog 29 #[.pointer (some ⟨b, 0, none⟩)] w fun e w' => e = .returned (.tuple #[]) ∧ Lib.BuilderAtF 51 5 B b (.pointer (some ⟨b, 0, none⟩)) bs w' ∧ Below B w w' ∧ Lib.OthersKept 5 (some b) w w' := by
  obtain ⟨j, hj, hjs⟩ := Option.map_eq_some_iff.1 Try.infoBld
  rcases h with h | h
  · have h0 := h.cell0; have hz := h.frozen0; have hsh := h.shape
    have HB := hidE h
    clear h
    have e1 := fun w hsh => Lib.run_to_unsafe (P := Try.prog) (e := 51) (cells := 2) w ⟨b, 0, none⟩ Try.underlying49 Try.underlying67 hj (by rw [hjs]; decide) hsh (Nat.zero_lt_succ 1)
    have e2 := fun w hsh => Lib.run_from_unsafe (P := Try.prog) (e := 51) (cells := 2) w ⟨b, 0, none⟩ Try.underlying67 Try.underlying49 hj hsh Try.bextra.liesBuilder
    go_enter Try.func29, Try.ntmps29
    go_wp2
    rw [run_callFunc_extern Try.func32 (by kernel_rfl) (by kernel_rfl) (by kernel_rfl) (e := Extern.AbiNoEscape.same) (by kernel_rfl)]
    rw [Lib.run_noEscape]
    simp only [Result.andThen]
    rw [Oper.upon_value]
    go_wp2
    go_end0
    exact ⟨rfl, HB.out.used _, (Below.refl B w).setCell (p := ⟨b, 0, none⟩) HB.out.1 _, (Lib.OthersKept.refl _ _ w).setCell ⟨b, 0, none⟩ rfl _⟩
  · have h0 := h.cell0
    have HB := hidE h
    have e1 := fun w => Lib.run_neq_ptr_same (P := Try.prog) w ⟨b, 0, none⟩ Try.underlying49 hj
    clear h
    go_enter Try.func29, Try.ntmps29
    go_wp2
    go_end0
    exact ⟨rfl, HB.out, Below.refl B _, Lib.OthersKept.refl _ _ _⟩
theorem bld_cells {B b : Nat} {p : Value} {bs : List Value} {w : World} (h : Lib.BuilderAtF 51 5 B b p bs w) : ∃ v, w.heap[b]? = some (.cells #[p, v] 51 (0, 0)) ∧ w.ownsRowF B 5 1 v bs.length bs ∧ v.ownBlock ≠ some b ∧ b < w.heap.size ∧ B ≤ b ∧ w.cell? ⟨b, 0, none⟩ = some p ∧ w.cell? ⟨b, 1, none⟩ = some v ∧ w.frozen? ⟨b, 1, none⟩ = false := by
  have hlt := h.lt
  obtain ⟨hB, v, hbk, hown, hne⟩ := h
  exact ⟨v, hbk, hown, hne, hlt, hB, by rw [Lib.cell_of_heap hbk]; rfl, by rw [Lib.cell_of_heap hbk]; rfl, Lib.frozen_of_heap hbk 1⟩
theorem ownF_sli {A : World} {β sz n : Nat} {e : TypeId} {v : Value} {xs : List Value} (h : A.ownsRowF β e sz v n xs) : ∃ a cap, v = .slice a n cap := by
  rcases h.2 with ⟨hv, h0⟩ | ⟨g, cap, cur, fz, hv, _⟩
  · exact ⟨none, 0, by rw [hv, h0]⟩
  · exact ⟨_, cap, hv⟩
/-- What the writing methods leave. -/
def Wrote (B b : Nat) (l : List UInt8) (w w' : World) : Prop := BldI B b l w' ∧ Below B w w' ∧ Lib.OthersKept 5 (some b) w w'
set_option maxHeartbeats 2000000 in
set_option maxRecDepth 100000 in
theorem bld_byte (B b : Nat) (l : List UInt8) (c : UInt8) (w : World) (h : BldI B b l w) (hl : l.length + 1 ≤ 140737488355328) (hBw : B ≤ w.heap.size) (z : Int) (hz : z = c.toNat) :
    Calls Try.prog 19 #[.pointer (some ⟨b, 0, none⟩), .int .u8 z] w fun e w' => e = .returned .nilIface ∧ Wrote B b (l ++ [c]) w w' := by
  obtain ⟨i0, hi, hz0, hz1, hz2⟩ := info_parts Try.infoU8
  have HI := hidE hi; have HZ0 := hidE hz0; have HZ1 := hidE hz1; have HZ2 := hidE hz2
  have HC := hidE (bld_check B b (Lib.byteCells l) w h)
  have hbl := Lib.byteCells_length l
  have HZ := hidE (show Lib.byteCells l ++ [.int .u8 z] = Lib.byteCells (l ++ [c]) by rw [Lib.byteCells_append, hz]; rfl)
  clear h hi hz0 hz1 hz2 hz
  generalize Lib.byteCells l = bs at *
  go_enter Try.func19, Try.ntmps19
  go_wp2_with (go_at_call 29; (with_reducible refine HC.out.mono ?_))
  rintro e w1 ⟨rfl, h1, hb1, hk1⟩
  obtain ⟨v, hbk, hown, hne, hlt, hBb, c0, c1, _⟩ := bld_cells h1
  have hw1 := hb1.size
  have HO := hidE hown; have HB1 := hidE hb1; have HK1 := hidE hk1; have HBK := hidE hbk
  clear h1 hown hb1 hk1 hbk
  go_wp2_with (at_builtin; refine wpList_append_ownF _ rfl _ _ 33 rfl B 5 i0 (.int .u8 0) 1 1 Try.underlying33 HI.out HZ0.out HZ1.out HZ2.out rfl (by decide) _ _ _ rfl (HO.out.alloc _) ⟨w1.heap.size, 0, none⟩ 1 1 [.int .u8 z] rfl rfl (new_cellsT _ #[.int .u8 z] 5) (by intro y hy; simp at hy; subst hy; rfl) (by unfold maxLen; omega) (by omega) (by simp; omega) ?_; intro v' w2 hown' hgrow _; have hb2 : w2.heap[b]? = some (.cells #[.pointer (some ⟨b, 0, none⟩), v] 51 (0, 0)) := (by rw [hgrow.block b (by simp; omega) (fun e => hne e.symm), Lib.alloc_old w1 _ b hlt]; exact HBK.out); have d0 : w2.cell? ⟨b, 0, none⟩ = some (.pointer (some ⟨b, 0, none⟩)) := (by rw [Lib.cell_of_heap hb2]; rfl); have d1 : w2.cell? ⟨b, 1, none⟩ = some v := (by rw [Lib.cell_of_heap hb2]; rfl); have f1 : w2.frozen? ⟨b, 1, none⟩ = false := Lib.frozen_of_heap hb2 1; obtain ⟨ao, cap, rfl⟩ := ownF_sli hown'; have HG := hidE hgrow; have HO2 := hidE hown'; have HB2 := hidE hb2; clear hgrow hown' hb2)
  go_ret
  refine ⟨rfl, ?_, ?_, ((HK1.out.alloc _).grown HG.out (Lib.ownsRowF_kind (HO.out.alloc _))).setCell ⟨b, 1, none⟩ rfl _⟩
  · show Lib.IsBuilderF _ _ _ _ _ _
    rw [← HZ.out]
    exact .inr (Lib.BuilderAtF.put (T := 51) (e := 5) hBb HB2.out (bs' := bs ++ [.int .u8 z]) (by have := HO2.out; rw [hbl] at this; simpa [hbl] using this) (by decide))
  · exact ((HB1.out.alloc (by omega) _).grown HG.out (by simp; omega) (fun k hk => (HO.out.lt k hk).1)).setCell (p := ⟨b, 1, none⟩) hBb _
set_option maxHeartbeats 2000000 in
set_option maxRecDepth 100000 in
theorem bld_str (B b : Nat) (l t : List UInt8) (w : World) (h : BldI B b l w) (hl : l.length + t.length ≤ 140737488355328) (hBw : B ≤ w.heap.size) :
    Calls Try.prog 20 #[.pointer (some ⟨b, 0, none⟩), strV t] w fun e w' => e = .returned (.tuple #[.int .i64 t.length, .nilIface]) ∧ Wrote B b (l ++ t) w w' := by
  obtain ⟨i0, hi, hz0, hz1, hz2⟩ := info_parts Try.infoU8
  have HI := hidE hi; have HZ0 := hidE hz0; have HZ1 := hidE hz1; have HZ2 := hidE hz2
  have HC := hidE (bld_check B b (Lib.byteCells l) w h)
  have hbl := Lib.byteCells_length l
  have slen : (⟨t.toArray⟩ : ByteArray).size = t.length := by simp [ByteArray.size]
  have HZ := hidE (show Lib.byteCells l ++ Lib.strCells ⟨t.toArray⟩ = Lib.byteCells (l ++ t) by rw [Lib.byteCells_append]; rfl)
  clear h hi hz0 hz1 hz2
  generalize Lib.byteCells l = bs at *
  go_enter Try.func20, Try.ntmps20
  go_wp2_with (go_at_call 29; (with_reducible refine HC.out.mono ?_))
  rintro e w1 ⟨rfl, h1, hb1, hk1⟩
  obtain ⟨v, hbk, hown, hne, hlt, hBb, c0, c1, _⟩ := bld_cells h1
  have hw1 := hb1.size
  have HO := hidE hown; have HB1 := hidE hb1; have HK1 := hidE hk1; have HBK := hidE hbk
  clear h1 hown hb1 hk1 hbk
  go_wp2_with (at_builtin; refine Lib.wpList_append_own_stringF _ rfl _ _ 33 9 rfl B 5 i0 Try.underlying33 Try.underlying9 HI.out HZ0.out HZ1.out HZ2.out _ _ _ rfl HO.out ⟨t.toArray⟩ rfl (by unfold maxLen; rw [slen]; omega) (by rw [slen]; omega) (by omega) ?_; intro v' w2 hown' hgrow _; have hb2 : w2.heap[b]? = some (.cells #[.pointer (some ⟨b, 0, none⟩), v] 51 (0, 0)) := (by rw [hgrow.block b hlt (fun e => hne e.symm)]; exact HBK.out); have d0 : w2.cell? ⟨b, 0, none⟩ = some (.pointer (some ⟨b, 0, none⟩)) := (by rw [Lib.cell_of_heap hb2]; rfl); have d1 : w2.cell? ⟨b, 1, none⟩ = some v := (by rw [Lib.cell_of_heap hb2]; rfl); have f1 : w2.frozen? ⟨b, 1, none⟩ = false := Lib.frozen_of_heap hb2 1; obtain ⟨ao, cap, rfl⟩ := ownF_sli hown'; have HG := hidE hgrow; have HO2 := hidE hown'; have HB2 := hidE hb2; clear hgrow hown' hb2)
  go_ret2
  refine ⟨by simp, ?_, ?_, (HK1.out.grown HG.out (Lib.ownsRowF_kind HO.out)).setCell ⟨b, 1, none⟩ rfl _⟩
  · show Lib.IsBuilderF _ _ _ _ _ _
    rw [← HZ.out]
    exact .inr (Lib.BuilderAtF.put (T := 51) (e := 5) hBb HB2.out (bs' := bs ++ Lib.strCells ⟨t.toArray⟩) (by have := HO2.out; rw [hbl, slen] at this; simpa [Lib.strCells_length, hbl, slen] using this) (by decide))
  · exact (HB1.out.grown HG.out (by omega) (fun k hk => (HO.out.lt k hk).1)).setCell (p := ⟨b, 1, none⟩) hBb _
end Go.Proofs.Ytpcgeaphfpcghaa

namespace Go.Proofs.Ytpcgeaphfpcghaa
open Go.ChangeShapes Go.WideShapes Go.ChangeAt Go.RowKit
attribute [local irreducible] Go.Calls

theorem textG_snoc : ∀ (l : List Tok) (t u : Tok), textG (l ++ [t, u]) = textG (l ++ [t]) ++ (if gapB t u then [32] else []) ++ u.text
  | [], t, u => by
    simp only [List.nil_append, textG]
    cases gapB t u <;> simp
  | [a], t, u => by
    simp only [List.cons_append, List.nil_append, textG]
    cases gapB t u <;> cases gapB a t <;> simp
  | a :: b :: l, t, u => by
    have ih := textG_snoc (b :: l) t u
    rw [show a :: b :: l ++ [t, u] = a :: b :: (l ++ [t, u]) from rfl, show a :: b :: l ++ [t] = a :: b :: (l ++ [t]) from rfl]
    rw [show b :: l ++ [t, u] = b :: (l ++ [t, u]) from rfl, show b :: l ++ [t] = b :: (l ++ [t]) from rfl] at ih
    rw [textG, textG, ih]
    cases gapB a b <;> simp
theorem text_first {l : List Tok} (h : 0 < l.length) : textG (l.take 1) = (l.getD 0 tk0).text := by
  cases l with
  | nil => simp at h
  | cons t r => rfl
theorem take_two {l : List Tok} {i : Nat} (h : i + 1 < l.length) : l.take (i + 1 + 1) = l.take i ++ [l.getD i tk0, l.getD (i + 1) tk0] ∧ l.take (i + 1) = l.take i ++ [l.getD i tk0] := by
  have e1 : l.take (i + 1) = l.take i ++ [l.getD i tk0] := by
    rw [List.take_add_one, List.getElem?_eq_getElem (by omega), List.getD_eq_getElem?_getD, List.getElem?_eq_getElem (show i < l.length by omega)]; rfl
  refine ⟨?_, e1⟩
  rw [List.take_add_one, e1, List.getElem?_eq_getElem h, List.getD_eq_getElem?_getD (i := i + 1), List.getElem?_eq_getElem h, List.append_assoc]; rfl
theorem text_next {l : List Tok} {i : Nat} (h : i + 1 < l.length) : textG (l.take (i + 1 + 1)) = textG (l.take (i + 1)) ++ (if gapB (l.getD i tk0) (l.getD (i + 1) tk0) then [32] else []) ++ (l.getD (i + 1) tk0).text := by
  obtain ⟨h1, h2⟩ := take_two h
  rw [h1, h2, textG_snoc]
/-- Whether there is a blank ahead of the i-th token. -/
def apB (l : List Tok) (i : Nat) : Bool := decide (0 < i) && gapB (l.getD (i - 1) tk0) (l.getD i tk0)
theorem text_step {l : List Tok} {i : Nat} (h : i < l.length) : textG (l.take (i + 1)) = textG (l.take i) ++ (if apB l i then [32] else []) ++ (l.getD i tk0).text := by
  cases i with
  | zero =>
    rw [text_first h]
    unfold apB
    simp [textG]
  | succ i =>
    rw [text_next h]
    unfold apB
    rw [decide_eq_true (show 0 < i + 1 by omega), Bool.true_and, Nat.add_sub_cancel]
theorem text_part : ∀ (l : List Tok) (i : Nat), (textG (l.take i)).length ≤ (textG l).length
  | [], i => by simp
  | [t], 0 => by simp [textG]
  | [t], i + 1 => by simp
  | t :: u :: l, 0 => by simp [textG]
  | t :: u :: l, 1 => by
    simp only [List.take_succ_cons, List.take_zero, textG, List.length_append]
    omega
  | t :: u :: l, i + 2 => by
    have ih := text_part (u :: l) (i + 1)
    simp only [List.take_succ_cons] at ih ⊢
    rw [textG, textG]
    cases gapB t u
    · simpa using ih
    · simpa using ih
theorem kept_blk {w w' : World} {b k : Nat} {cs : Array Value} {t : TypeId} (h : Blk w k cs t) (hk : Lib.OthersKept 5 (some b) w w') (hb : k ≠ b) (ht : t ≠ 5) : Blk w' k cs t :=
  hk k _ h (fun e => hb (Option.some.inj e)) (fun c fz e => ht (by cases e; rfl))
set_option maxRecDepth 100000 in
set_option maxHeartbeats 2000000 in
theorem text_c (l : List Tok) (a : Option Addr) (cap : Nat) (w : World) (hl : l.length ≤ 1000000) (hz : (textG l).length ≤ 1000000000) (hA : ArgT w a l) :
    Calls Try.prog 8 #[.slice a l.length cap] w fun e w' => e = .returned (strV (textG l)) ∧ Below w.heap.size w w' := by
  have HA := hidE hA
  clear hA
  go_enter Try.func8, Try.ntmps8
  go_wp2
  go_loopg [8] l.length (fun gh v8 wr => ∃ i : Nat, i ≤ l.length ∧ l.length - i ≤ gh ∧ v8 = .int .i64 i ∧ BldI w.heap.size w.heap.size (textG (l.take i)) wr ∧ Below w.heap.size w wr)
  case atStart => exact ⟨0, Nat.zero_le _, Nat.le_refl _, rfl, Lib.IsBuilderF.of (Lib.fresh_isBuilder 51 5 w), (Below.refl _ w).alloc (Nat.le_refl _) _⟩
  case round =>
    obtain ⟨i, hi, hgh, rfl, hbl, hb⟩ := hrel
    have HG := hidE hgh; have HBL := hidE hbl; have HB := hidE hb
    have hsz := hb.size
    clear hgh hbl hb
    by_cases hlt : i < l.length
    · obtain ⟨b, off, rfl, hbb, hc⟩ := (HA.out.past HB.out) (by omega)
      obtain ⟨c0, c1, c2, c3⟩ := hc _ hlt
      have d1 : decide ((i : Int) < (l.length : Int)) = true := decide_eq_true (by omega)
      have d1' : decide (i < l.length) = true := decide_eq_true hlt
      have hbw : w.heap.size < wr.heap.size := by
        rcases HBL.out with h | h
        · exact h.lt
        · exact h.lt
      have BT := hidE (fun o => HBL.out.alloc o)
      have tl := text_part l (i + 1)
      have BK := hidE (fun cs => Blk.made wr cs 30)
      have HT := hidE (show textG (l.take (i + 1)) = textG (l.take i) ++ (if apB l i then [32] else []) ++ (l.getD i tk0).text from text_step hlt)
      have hle : (l.getD i tk0).text.length + (textG (l.take i)).length + 1 ≤ 1000000001 := by
        have h1 := congrArg List.length HT.out
        simp only [List.length_append] at h1
        omega
      have hpre := text_part l i
      by_cases h0 : 0 < i
      · have d2 : decide ((0 : Int) < (i : Int)) = true := decide_eq_true (by omega)
        have d2' : decide (0 < i) = true := decide_eq_true h0
        obtain ⟨e0, _, _, _⟩ := hc (i - 1) (by omega)
        have g1 : (0 : Int) ≤ (i : Int) - 1 := by omega
        have g2 : ((i : Int) - 1) < (l.length : Int) := by omega
        have g3 : ((i : Int) - 1).toNat < l.length := by omega
        have g4 : (1 : Int) ≤ (i : Int) := by omega
        have g5 : (i : Int) < (l.length : Int) + 1 := by omega
        have g6 : 1 ≤ i := by omega
        have g7 : i < l.length + 1 := by omega
        have HAP := hidE (fun w => apart_c (l.getD (i - 1) tk0).kind (l.getD i tk0).kind w)
        have hap : apB l i = apI (l.getD (i - 1) tk0).kind (l.getD i tk0).kind := by unfold apB; rw [decide_eq_true h0, Bool.true_and]; rfl
        rw [← hap] at HAP
        have wq : IntKind.i64.wrap ((i : Int) - 1) = (i : Int) - 1 := IntWalk.i64_in _ (by omega)
        clear hc tl hap
        generalize (l.getD (i - 1) tk0).kind = kp at *
        generalize (l.getD i tk0).text = X at *
        generalize (l.getD i tk0).kind = kd at *
        generalize (l.getD i tk0).num = nm at *
        generalize (l.getD i tk0).pos = ps at *
        generalize textG (l.take i) = T0 at *
        cases hab : apB l i
        · rw [hab] at HAP HT
          rw [if_neg (by decide), List.append_nil] at HT
          clear hab
          go_wp2
          go_quiet ((go_at_call 18; exact Calls.quiet_of_same (HAP.out _)))
          have f1 : BldI w.heap.size w.heap.size T0 ((wr.alloc (Obj.cells #[.int .u8 kd, strV X, .int .i64 nm, .int .i64 ps] 30)).drewN nq) := BT.out _
          have f2 : Blk ((wr.alloc (Obj.cells #[.int .u8 kd, strV X, .int .i64 nm, .int .i64 ps] 30)).drewN nq) wr.heap.size #[.int .u8 kd, strV X, .int .i64 nm, .int .i64 ps] 30 := BK.out _
          have f3 : Below w.heap.size w ((wr.alloc (Obj.cells #[.int .u8 kd, strV X, .int .i64 nm, .int .i64 ps] 30)).drewN nq) := by have := HB.out; (repeat (first | exact Below.refl _ _ | assumption | refine balloc ?_ _ | refine below_drewN ?_ _ | refine bstep (by assumption) ?_ | refine bstep (Past.prop _) ?_ | refine Below.setCell ?_ (by first | exact Nat.le_refl _ | (simp; done) | (simp; omega)) _))
          have HF1 := hidE f1; have HF2 := hidE f2; have HF3 := hidE f3
          clear f1 f2 f3
          have c6 := HF2.out.cell 1; have c7 := HF2.out.lt
          simp at c6
          go_wp2_with (go_at_call 20; (with_reducible refine (bld_str _ _ _ X _ HF1.out (by first | omega | (simp only [List.length_append, List.length_cons, List.length_nil]; omega)) HF3.out.size).mono ?_); rintro e w3 ⟨rfl, hw3, hw4, hw5⟩)
          go_roundg (l.length - (i + 1))
          case measure => have := HG.out; omega
          case rel => exact ⟨i + 1, by omega, Nat.le_refl _, by go_num, by rw [HT.out]; simpa using hw3, HF3.out.trans hw4⟩
        · rw [hab] at HAP HT
          rw [if_pos rfl] at HT
          clear hab
          go_wp2
          go_quiet ((go_at_call 18; exact Calls.quiet_of_same (HAP.out _)))
          have f1 : BldI w.heap.size w.heap.size T0 ((wr.alloc (Obj.cells #[.int .u8 kd, strV X, .int .i64 nm, .int .i64 ps] 30)).drewN nq) := BT.out _
          have f2 : Blk ((wr.alloc (Obj.cells #[.int .u8 kd, strV X, .int .i64 nm, .int .i64 ps] 30)).drewN nq) wr.heap.size #[.int .u8 kd, strV X, .int .i64 nm, .int .i64 ps] 30 := BK.out _
          have f3 : Below w.heap.size w ((wr.alloc (Obj.cells #[.int .u8 kd, strV X, .int .i64 nm, .int .i64 ps] 30)).drewN nq) := by have := HB.out; (repeat (first | exact Below.refl _ _ | assumption | refine balloc ?_ _ | refine below_drewN ?_ _ | refine bstep (by assumption) ?_ | refine bstep (Past.prop _) ?_ | refine Below.setCell ?_ (by first | exact Nat.le_refl _ | (simp; done) | (simp; omega)) _))
          have HF1 := hidE f1; have HF2 := hidE f2; have HF3 := hidE f3
          clear f1 f2 f3
          go_wp2_with (go_at_call 19; (with_reducible refine (bld_byte _ _ _ 32 _ HF1.out (by omega) HF3.out.size 32 rfl).mono ?_); rintro e w2 ⟨rfl, hw1, hw2, hwk⟩; have HF1' := hidE hw1; have HF2' := hidE (kept_blk HF2.out hwk (by omega) (by decide)); have HF3' := hidE (HF3.out.trans hw2); have c6 := HF2'.out.cell 1; have c7 := HF2'.out.lt; simp at c6; clear hw1 hw2 hwk)
          go_wp2_with (go_at_call 20; (with_reducible refine (bld_str _ _ _ X _ HF1'.out (by simp only [List.length_append, List.length_cons, List.length_nil]; omega) HF3'.out.size).mono ?_); rintro e w3 ⟨rfl, hw3, hw4, hw5⟩)
          go_roundg (l.length - (i + 1))
          case measure => have := HG.out; omega
          case rel => exact ⟨i + 1, by omega, Nat.le_refl _, by go_num, by rw [HT.out]; exact hw3, HF3'.out.trans hw4⟩
      · have d2 : decide ((0 : Int) < (i : Int)) = false := decide_eq_false (by omega)
        have d2' : decide (0 < i) = false := decide_eq_false h0
        have hab : apB l i = false := by unfold apB; rw [decide_eq_false h0, Bool.false_and]
        rw [hab, if_neg (by decide), List.append_nil] at HT
        clear hc tl hab
        generalize (l.getD i tk0).text = X at *
        generalize (l.getD i tk0).kind = kd at *
        generalize (l.getD i tk0).num = nm at *
        generalize (l.getD i tk0).pos = ps at *
        generalize textG (l.take i) = T0 at *
        go_wp2
        go_quiet (fail)
        have f1 : BldI w.heap.size w.heap.size T0 ((wr.alloc (Obj.cells #[.int .u8 kd, strV X, .int .i64 nm, .int .i64 ps] 30)).drewN nq) := BT.out _
        have f2 : Blk ((wr.alloc (Obj.cells #[.int .u8 kd, strV X, .int .i64 nm, .int .i64 ps] 30)).drewN nq) wr.heap.size #[.int .u8 kd, strV X, .int .i64 nm, .int .i64 ps] 30 := BK.out _
        have f3 : Below w.heap.size w ((wr.alloc (Obj.cells #[.int .u8 kd, strV X, .int .i64 nm, .int .i64 ps] 30)).drewN nq) := by have := HB.out; (repeat (first | exact Below.refl _ _ | assumption | refine balloc ?_ _ | refine below_drewN ?_ _ | refine bstep (by assumption) ?_ | refine bstep (Past.prop _) ?_ | refine Below.setCell ?_ (by first | exact Nat.le_refl _ | (simp; done) | (simp; omega)) _))
        have HF1 := hidE f1; have HF2 := hidE f2; have HF3 := hidE f3
        clear f1 f2 f3
        have c6 := HF2.out.cell 1; have c7 := HF2.out.lt
        simp at c6
        go_wp2_with (go_at_call 20; (with_reducible refine (bld_str _ _ _ X _ HF1.out (by first | omega | (simp only [List.length_append, List.length_cons, List.length_nil]; omega)) HF3.out.size).mono ?_); rintro e w3 ⟨rfl, hw3, hw4, hw5⟩)
        go_roundg (l.length - (i + 1))
        case measure => have := HG.out; omega
        case rel => exact ⟨i + 1, by omega, Nat.le_refl _, by go_num, by rw [HT.out]; simpa using hw3, HF3.out.trans hw4⟩
    · have d1 : decide ((i : Int) < (l.length : Int)) = false := decide_eq_false (by omega)
      have d1' : decide (i < l.length) = false := decide_eq_false hlt
      obtain rfl : i = l.length := by omega
      rw [List.take_length] at HBL
      go_wp2_with (go_at_call 21; (with_reducible refine (bld_string _ _ _ _ HBL.out hsz).mono ?_); rintro e w2 ⟨rfl, hw2⟩)
      go_ret
      exact ⟨rfl, HB.out.trans hw2⟩
end Go.Proofs.Ytpcgeaphfpcghaa



namespace Go.Proofs.Ytpcgeaphfpcghaa
open Go.RowKit

/-- What is asked of one operation's outcome: its value and the world behind it. -/
def gives (P : Program) (G : Value → World → Prop) : Result Next → Prop
  | .ok (.value u) w' => G u w'
  | .ok .skip w' => G undef w'
  | .ok (.enter f args) w' => Calls P f args w' (fun e w'' => ∃ v, e = .returned v ∧ G v w'')
  | _ => False

theorem upon_of_gives {P : Program} {o : Oper} {a : Act} {next : Act → World → Prop} {Q : Exit → Act → World → Prop} {G : Value → World → Prop} {r : Result Next}
    (h : gives P G r) (hn : ∀ v w', G v w' → next (a.put o.dst v) w') : o.upon P a next Q r := by
  cases r with
  | ok n w' =>
    cases n <;> simp only [gives] at h <;> simp only [Oper.upon]
    case value u => exact hn _ _ h
    case skip => exact hn _ _ h
    case enter f args => exact h.mono fun e w'' ⟨v, he, hg⟩ => by subst he; exact hn _ _ hg
  | halt x w' => simp only [gives] at h

/-- Operation i waits for operation j. -/
def waits (ops : Array Oper) (i j : Nat) : Bool := match ops[i]? with
  | some o => o.after.any fun e => Region.binds .any e && e.on == j
  | none => false
def cover (ops : Array Oper) : Nat → Nat → Nat → Bool
  | 0, i, j => waits ops i j
  | d + 1, i, j => waits ops i j || (List.range i).any fun k => waits ops i k && cover ops d k j
/-- Most regions are shallow; the deep look is taken only where the other fails. -/
def coverX (ops : Array Oper) (i j : Nat) : Bool := cover ops 3 i j || cover ops 8 i j

/-- The frame in which the first n operations have left u. -/
def frm (l : List Oper) (u : Nat → Value) : Nat → Act → Act
  | k, a => match l with
    | [] => a
    | o :: r => frm r u (k + 1) (a.put o.dst (u k))

/-- The closed facts on a region: edges lead back; operands made in the region are waited for; no two write one slot; the tail waits for all ahead of it. -/
def jOk (l : List Oper) (n : Nat) (lax : List Nat) : Bool :=
  Region.noSelect l.toArray &&
  ((List.range l.length).all fun i => match l[i]? with
    | some o => o.after.all fun e => !Region.binds .any e || decide (e.on < i)
    | none => true) &&
  ((List.range n).all fun i => match l[i]? with
    | some o => (List.range n).all fun j => match l[j]? with
      | some p => match p.dst with
        | some t => (!(o.looksAt l.toArray).contains t || waits l.toArray i j) && (i == j || o.dst != some t)
        | none => true
      | none => true
    | none => true) &&
  ((List.range l.length).all fun i => decide (i < n) || (List.range i).all fun j => lax.contains j || coverX l.toArray i j) &&
  (lax.all fun i => decide (i < n)) &&
  (lax.all fun i => match l[i]? with
    | some o => (List.range l.length).all fun j => match l[j]? with
      | some p => j == i || (decide (j < n) && !lax.contains j) || waits l.toArray j i || o.apart l.toArray p
      | none => true
    | none => true)

structure Shut (ops : Array Oper) (listed : Array Bool) : Prop where
  size : listed.size = ops.size
  deps : ∀ i o, ops[i]? = some o → listed.getD i false = true → ∀ e ∈ o.after, Region.binds .any e = true → listed.getD e.on false = true

theorem waits_listed {ops : Array Oper} {listed : Array Bool} {i j : Nat} {o : Oper} (ho : ops[i]? = some o)
    (hd : ∀ e ∈ o.after, Region.binds .any e = true → listed.getD e.on false = true) (h : waits ops i j = true) : listed.getD j false = true := by
  unfold waits at h
  rw [ho] at h
  obtain ⟨e, he, hb⟩ := Array.any_eq_true'.1 h
  simp only [Bool.and_eq_true, beq_iff_eq] at hb
  exact hb.2 ▸ hd e he hb.1

theorem cover_listed {ops : Array Oper} {listed : Array Bool} (hs : Shut ops listed) : ∀ (d i j : Nat) (o : Oper), ops[i]? = some o →
    (∀ e ∈ o.after, Region.binds .any e = true → listed.getD e.on false = true) → cover ops d i j = true → listed.getD j false = true := by
  intro d
  induction d with
  | zero => intro i j o ho hd h; exact waits_listed ho hd h
  | succ d ih =>
    intro i j o ho hd h
    simp only [cover, Bool.or_eq_true, List.any_eq_true, Bool.and_eq_true] at h
    rcases h with h | ⟨k, _, hk, hc⟩
    · exact waits_listed ho hd h
    · have hkl := waits_listed ho hd hk
      cases hok : ops[k]? with
      | none =>
        have hlt : ¬ k < ops.size := by intro hlt; rw [Array.getElem?_eq_getElem hlt] at hok; cases hok
        rw [← hs.size] at hlt
        simp [Array.getElem?_eq_none (Nat.not_lt.1 hlt)] at hkl
      | some ok => exact ih k j ok hok (hs.deps k ok hok hkl) hc

theorem coverX_listed {ops : Array Oper} {listed : Array Bool} (hs : Shut ops listed) (i j : Nat) (o : Oper) (ho : ops[i]? = some o)
    (hd : ∀ e ∈ o.after, Region.binds .any e = true → listed.getD e.on false = true) (h : coverX ops i j = true) : listed.getD j false = true := by
  unfold coverX at h
  rw [Bool.or_eq_true] at h
  rcases h with h | h
  · exact cover_listed hs 3 i j o ho hd h
  · exact cover_listed hs 8 i j o ho hd h

theorem getD_flip {x : Array Bool} {j : Nat} (h : j < x.size) (d e : Bool) : x.getD j d = x.getD j e := by simp [h]

/-- The tail: one operation behind the other. -/
theorem tail_any {P : Program} {l : List Oper} {n : Nat} {Q : Exit → Act → World → Prop}
    (hback : ∀ i o, l[i]? = some o → ∀ e ∈ o.after, Region.binds .any e = true → e.on < i)
    (hok : ∀ i, n ≤ i → i < l.length → ∀ j, n ≤ j → j < i → coverX l.toArray i j = true) :
    ∀ (fuel k : Nat) (listed : Array Bool) (a : Act) (w : World), n ≤ k → k ≤ l.length → l.length ≤ k + fuel → Shut l.toArray listed →
      (∀ j, j < l.length → listed.getD j false = decide (j < k)) → wpList P l.toArray Q (l.drop k) a w → wpAny P .any l.toArray Q fuel listed a w := by
  have done : ∀ (k : Nat) (listed : Array Bool), l.length ≤ k → Shut l.toArray listed → (∀ j, j < l.length → listed.getD j false = decide (j < k)) → Region.ready .any l.toArray listed = [] := by
    intro k listed hk hs hl
    apply List.eq_nil_iff_forall_not_mem.2
    intro j hj
    obtain ⟨h0, o, ho, _⟩ := mem_ready.1 hj
    have hjl : j < l.length := by
      rcases Nat.lt_or_ge j l.length with h | h
      · exact h
      · simp [List.getElem?_eq_none h] at ho
    have := hl j hjl
    rw [getD_flip (by rw [hs.size]; simp; exact hjl) false true, h0] at this
    simp at this; omega
  intro fuel
  induction fuel with
  | zero =>
    intro k listed a w _ hk1 hk2 hs hl h
    have hk : k = l.length := by omega
    subst hk
    rw [List.drop_length] at h
    exact ⟨done _ _ (Nat.le_refl _) hs hl, h⟩
  | succ fuel ih =>
    intro k listed a w hnk hk1 hk2 hs hl h
    rcases Nat.lt_or_ge k l.length with hlt | hge
    · have hok' : l[k]? = some l[k] := List.getElem?_eq_getElem hlt
      have hka : l.toArray[k]? = some l[k] := by simp
      rw [List.drop_eq_getElem_cons hlt] at h
      have hdeps : ∀ e ∈ l[k].after, Region.binds .any e = true → listed.getD e.on false = true := fun e he hb => by
        have := hback k _ hok' e he hb
        rw [hl e.on (by omega)]; simpa using this
      refine ⟨fun h0 => ?_, fun j hj => ?_⟩
      · exfalso
        have : k ∈ Region.ready .any l.toArray listed := by
          refine mem_ready.2 ⟨?_, l[k], hka, hdeps⟩
          rw [getD_flip (by rw [hs.size]; simp; exact hlt) true false, hl k hlt]; simp
        rw [h0] at this; cases this
      · obtain ⟨h0, o, ho, hd⟩ := mem_ready.1 hj
        have hjl : j < l.length := by
          rcases Nat.lt_or_ge j l.length with h | h
          · exact h
          · simp [List.getElem?_eq_none h] at ho
        have hjk : k ≤ j := by
          have := hl j hjl
          rw [getD_flip (by rw [hs.size]; simp; exact hjl) false true, h0] at this
          simp at this; exact this
        have hej : j = k := by
          rcases Nat.lt_or_ge k j with hlt' | hge'
          · have := coverX_listed hs j k o ho hd (hok j (by omega) hjl k hnk hlt')
            rw [hl k hlt] at this; simp at this
          · omega
        subst hej
        have hwp : wpOp P l.toArray Q j (wpList P l.toArray Q (l.drop (j + 1))) a w := by
          unfold wpOp; simp only [hka]; exact h
        refine wpOp_mono (fun a' w' h' => ih (j + 1) _ a' w' (by omega) (by omega) (by omega) ⟨by simpa using hs.size, ?_⟩ ?_ h') hwp
        · intro i oi hi hli e he hb
          by_cases hij : i = j
          · subst hij
            rw [hka] at hi; cases hi
            exact getD_set_true (hdeps e he hb)
          · rw [getD_set_ne false (Ne.symm hij)] at hli
            exact getD_set_true (hs.deps i oi hi hli e he hb)
        · intro i hi
          by_cases hij : i = j
          · subst hij
            have : i < listed.size := by rw [hs.size]; simpa using hi
            simp [this]
          · rw [getD_set_ne false (Ne.symm hij), hl i hi, decide_eq_decide]; omega
    · have hk : k = l.length := by omega
      subst hk
      rw [List.drop_length] at h
      exact wpAny_done (done _ _ (Nat.le_refl _) hs hl) h _

theorem frm_spec (u : Nat → Value) : ∀ (l : List Oper) (k : Nat) (a : Act), (frm l u k a).tmps.size = a.tmps.size ∧ (frm l u k a).defers = a.defers ∧
    (∀ (t : Tmp), (∀ (j : Nat) (o : Oper), l[j]? = some o → o.dst ≠ some t) → (frm l u k a).tmps[t]? = a.tmps[t]?) ∧
    (∀ (j : Nat) (o : Oper) (t : Tmp), l[j]? = some o → o.dst = some t → (∀ (i : Nat) (p : Oper), l[i]? = some p → i ≠ j → p.dst ≠ some t) → t < a.tmps.size → (frm l u k a).tmps[t]? = some (u (k + j))) := by
  intro l
  induction l with
  | nil => intro k a; exact ⟨rfl, rfl, fun _ _ => rfl, fun j o t h => by simp at h⟩
  | cons q r ih =>
    intro k a
    obtain ⟨h1, h2, h3, h4⟩ := ih (k + 1) (a.put q.dst (u k))
    have hs : (a.put q.dst (u k)).tmps.size = a.tmps.size := by cases q.dst <;> simp [Act.put]
    have hd : (a.put q.dst (u k)).defers = a.defers := by cases q.dst <;> simp [Act.put]
    refine ⟨by rw [← hs]; exact h1, by rw [← hd]; exact h2, fun t ht => ?_, fun j o t hj hdst huniq hlt => ?_⟩
    · have e := h3 t (fun j o hj => ht (j + 1) o (by simpa using hj))
      show (frm r u (k + 1) (a.put q.dst (u k))).tmps[t]? = _
      rw [e]
      have hq := ht 0 q (by simp)
      cases hqd : q.dst with
      | none => rfl
      | some d =>
        have hne : d ≠ t := fun e => hq (by rw [hqd, e])
        simp [Act.put, Array.getElem?_setIfInBounds_ne hne]
    · show (frm r u (k + 1) (a.put q.dst (u k))).tmps[t]? = _
      cases j with
      | zero =>
        simp at hj; subst hj
        rw [h3 t (fun i p hi => huniq (i + 1) p (by simpa using hi) (by omega)), hdst]
        simp [Act.put, hlt]
      | succ j =>
        have := h4 j o t (by simpa using hj) hdst (fun i p hi hne => huniq (i + 1) p (by simpa using hi) (by omega)) (by rw [hs]; exact hlt)
        rw [this]; congr 2; omega

/-- What holds while the first n operations run, in whatever order. -/
structure JInv (l : List Oper) (n : Nat) (a0 : Act) (w0 : World) (R : Nat → Value → World → Prop) (fr : Nat → Bool) (u : Nat → Value) (listed : Array Bool) (a : Act) (w : World) : Prop where
  shut : Shut l.toArray listed
  notail : ∀ j, n ≤ j → j < l.length → listed.getD j false = false
  size : a.tmps.size = a0.tmps.size
  defers : a.defers = a0.defers
  mine : ∀ (j : Nat) (o : Oper) (t : Tmp), j < n → l[j]? = some o → listed.getD j false = true → o.dst = some t → t < a0.tmps.size → a.tmps[t]? = some (u j)
  rest : ∀ (t : Tmp), (∀ (j : Nat) (o : Oper), j < n → l[j]? = some o → listed.getD j false = true → o.dst ≠ some t) → a.tmps[t]? = a0.tmps[t]?
  past : Below w0.heap.size w0 w
  facts : ∀ j, j < n → listed.getD j false = true → R j (u j) w
  fresh : ∀ j, j < n → listed.getD j false = true → fr j = true → ∃ p, u j = .pointer (some ⟨p, 0, none⟩) ∧ p < w.heap.size
  apart : ∀ i j, i < n → j < n → i ≠ j → listed.getD i false = true → listed.getD j false = true → fr i = true → fr j = true → u i ≠ u j

/-- What is asked of operation i: in the frame in which all the first n have left u, in a world that has only grown, knowing what it waits for. -/
def JStep (P : Program) (l : List Oper) (n : Nat) (a0 : Act) (w0 : World) (R : Nat → Value → World → Prop) (fr : Nat → Bool) (i : Nat) (o : Oper) : Prop :=
  ∀ (u : Nat → Value) (x : Past w0), (∀ j, j < n → waits l.toArray i j = true → R j (u j) x.1) →
    if Region.wanted o (yielded l.toArray (frm (l.take n) u 0 a0).tmps) then
      gives P (fun v w' => Below x.1.heap.size x.1 w' ∧ R i v w' ∧ (fr i = true → ∃ p, v = .pointer (some ⟨p, 0, none⟩) ∧ x.1.heap.size ≤ p ∧ p < w'.heap.size)) ((execOp (frm (l.take n) u 0 a0).eval o).run P x.1)
    else R i undef x.1 ∧ fr i = false

structure JOk (l : List Oper) (n : Nat) (lax : List Nat) : Prop where
  sel : Region.noSelect l.toArray = true
  back : ∀ (i : Nat) (o : Oper), l[i]? = some o → ∀ e ∈ o.after, Region.binds .any e = true → e.on < i
  own : ∀ (i : Nat) (o : Oper) (j : Nat) (p : Oper) (t : Tmp), i < n → j < n → l[i]? = some o → l[j]? = some p → p.dst = some t → t ∈ o.looksAt l.toArray → waits l.toArray i j = true
  one : ∀ (i : Nat) (o : Oper) (j : Nat) (p : Oper) (t : Tmp), i < n → j < n → l[i]? = some o → l[j]? = some p → p.dst = some t → o.dst = some t → i = j
  tail : ∀ i, n ≤ i → i < l.length → ∀ j, j < i → j ∉ lax → coverX l.toArray i j = true
  laxLt : ∀ i, i ∈ lax → i < n
  laxA : ∀ (i j : Nat) (o p : Oper), i ∈ lax → l[i]? = some o → l[j]? = some p → j ≠ i → (n ≤ j ∨ j ∈ lax) → waits l.toArray j i = true ∨ o.apart l.toArray p = true

theorem jOk_spec {l : List Oper} {n : Nat} {lax : List Nat} (h : jOk l n lax = true) : JOk l n lax := by
  simp only [jOk, Bool.and_eq_true, List.all_eq_true, List.mem_range] at h
  obtain ⟨⟨⟨⟨⟨h1, h2⟩, h3⟩, h4⟩, h5⟩, h6⟩ := h
  refine ⟨h1, ?_, ?_, ?_, ?_, fun i hi => by simpa using h5 i hi, ?_⟩
  rotate_left 4
  · intro i j o p hi ho hp hne hj
    have := h6 i hi
    rw [ho] at this
    have := List.all_eq_true.1 this j (List.mem_range.2 (List.getElem?_eq_some_iff.1 hp).1)
    rw [hp] at this
    simp only [Bool.or_eq_true, Bool.and_eq_true, decide_eq_true_eq, beq_iff_eq, Bool.not_eq_true'] at this
    rcases this with ((h | h) | h) | h
    · exact absurd h hne
    · exfalso
      rcases hj with hj | hj
      · omega
      · have := h.2; simp [hj] at this
    · exact .inl h
    · exact .inr h
  · intro i o ho e he hb
    have := h2 i (List.getElem?_eq_some_iff.1 ho).1
    rw [ho] at this
    have := Array.all_eq_true_iff_forall_mem.1 this e he
    simpa [hb] using this
  · intro i o j p t hi hj ho hp ht hl
    have := h3 i hi
    rw [ho] at this
    have := List.all_eq_true.1 this j (List.mem_range.2 hj)
    rw [hp] at this
    simp only [ht, Bool.and_eq_true, Bool.or_eq_true, Bool.not_eq_true'] at this
    rcases this.1 with h | h
    · exact absurd hl (by simpa using h)
    · exact h
  · intro i o j p t hi hj ho hp ht hd
    have := h3 i hi
    rw [ho] at this
    have := List.all_eq_true.1 this j (List.mem_range.2 hj)
    rw [hp] at this
    simp only [ht, Bool.and_eq_true, Bool.or_eq_true] at this
    rcases this.2 with h | h
    · simpa using h
    · rw [hd] at h; simp at h
  · intro i hi hl j hj hjx
    have := h4 i hl
    simp only [Bool.or_eq_true, decide_eq_true_eq, List.all_eq_true, List.mem_range] at this
    rcases this with h | h
    · omega
    · rcases h j hj with h | h
      · exact absurd (by simpa using h) hjx
      · exact h

section
variable {P : Program} {l : List Oper} {n : Nat} {lax : List Nat} {a0 : Act} {w0 : World} {R : Nat → Value → World → Prop} {fr : Nat → Bool}

/-- What an operation that is ready looks at is as it will be when all have run. -/
theorem look_same (_hn : n ≤ l.length) (hok : JOk l n lax) {u : Nat → Value} {listed : Array Bool} {a : Act} {w : World} (hI : JInv l n a0 w0 R fr u listed a w)
    {i : Nat} {o : Oper} (hi : i < n) (ho : l[i]? = some o) (hd : ∀ e ∈ o.after, Region.binds .any e = true → listed.getD e.on false = true) :
    ∀ t, t ∈ o.looksAt l.toArray → a.tmps[t]? = (frm (l.take n) u 0 a0).tmps[t]? := by
  intro t ht
  obtain ⟨f1, _, f3, f4⟩ := frm_spec u (l.take n) 0 a0
  by_cases h : ∃ (j : Nat) (p : Oper), j < n ∧ l[j]? = some p ∧ p.dst = some t
  · obtain ⟨j, p, hj, hp, hpt⟩ := h
    have hw := hok.own i o j p t hi hj ho hp hpt ht
    have hl := waits_listed (ops := l.toArray) (i := i) (by simpa using ho) hd hw
    rcases Nat.lt_or_ge t a0.tmps.size with hlt | hge
    · rw [hI.mine j p t hj hp hl hpt hlt, f4 j p t (by rw [List.getElem?_take, if_pos hj]; exact hp) hpt (fun k q hq hne => ?_) hlt]
      · simp
      · intro hqt
        rw [List.getElem?_take] at hq
        split at hq
        · rename_i hk; exact hne (hok.one k q j p t hk hj hq hp hpt hqt)
        · cases hq
    · rw [Array.getElem?_eq_none (by rw [hI.size]; exact hge), Array.getElem?_eq_none (by rw [f1]; exact hge)]
  · rw [hI.rest t (fun j p hj hp _ hpt => h ⟨j, p, hj, hp, hpt⟩), f3 t (fun j p hp hpt => ?_)]
    rw [List.getElem?_take] at hp
    split at hp
    · rename_i hk; exact h ⟨j, p, hk, hp, hpt⟩
    · cases hp

theorem exec_same {a a' : Act} {o : Oper} {ops : Array Oper} (hs : ∀ cs b, o.op ≠ .select cs b) (h : ∀ t, t ∈ o.looksAt ops → a.tmps[t]? = a'.tmps[t]?) : execOp a.eval o = execOp a'.eval o := by
  refine execOp_congr o hs fun x hx => ?_
  cases x with
  | tmp t =>
    have := h t (List.mem_append_left _ (List.mem_filterMap.2 ⟨.tmp t, by simpa using hx, rfl⟩))
    simp only [Act.eval, Array.getD_eq_getD_getElem?, this]
  | const v => rfl
  | global g => rfl
  | func f => rfl

theorem wanted_same {a a' : Act} {o : Oper} {ops : Array Oper} (h : ∀ t, t ∈ o.looksAt ops → a.tmps[t]? = a'.tmps[t]?) :
    Region.wanted o (yielded ops a.tmps) = Region.wanted o (yielded ops a'.tmps) := by
  unfold Region.wanted
  cases hg : o.guard with
  | none => rfl
  | some gw =>
    obtain ⟨g, want⟩ := gw
    have hy : yielded ops a.tmps g = yielded ops a'.tmps g := by
      unfold yielded
      cases ht : (ops[g]?).bind (·.dst) with
      | none => rfl
      | some t => simp only [Option.bind_some, h t (List.mem_append_right _ (by simp [hg, ht]))]
    simp only [hy]

/-- One operation has run: what holds then. -/
theorem JInv.next (hok : JOk l n lax) (hst : ∀ i v w w', R i v w → Below w.heap.size w w' → R i v w') {u : Nat → Value} {listed : Array Bool} {a : Act} {w : World} (hI : JInv l n a0 w0 R fr u listed a w)
    {i : Nat} {o : Oper} (hi : i < n) (hn : n ≤ l.length) (ho : l[i]? = some o) (hun : listed.getD i false = false) (hd : ∀ e ∈ o.after, Region.binds .any e = true → listed.getD e.on false = true)
    {v : Value} {w' : World} (hb : Below w.heap.size w w') (hR : R i v w') (hf : fr i = true → ∃ p, v = .pointer (some ⟨p, 0, none⟩) ∧ w.heap.size ≤ p ∧ p < w'.heap.size) :
    JInv l n a0 w0 R fr (fun j => if j = i then v else u j) (listed.setIfInBounds i true) (a.put o.dst v) w' := by
  have hsz : (a.put o.dst v).tmps.size = a.tmps.size := by cases o.dst <;> simp [Act.put]
  have hil : i < listed.size := by rw [hI.shut.size]; simp; omega
  have hne : ∀ j, j ≠ i → (listed.setIfInBounds i true).getD j false = listed.getD j false := fun j h => getD_set_ne false (Ne.symm h)
  refine ⟨⟨by simpa using hI.shut.size, ?_⟩, ?_, by rw [hsz]; exact hI.size, ?_, ?_, ?_, ?_, ?_, ?_, ?_⟩
  · intro k ok hk hkl e he hbd
    by_cases hki : k = i
    · subst hki
      have : ok = o := by have : l.toArray[k]? = some o := by simpa using ho
                          rw [this] at hk; exact (Option.some.inj hk).symm
      subst this
      exact getD_set_true (hd e he hbd)
    · rw [hne k hki] at hkl
      exact getD_set_true (hI.shut.deps k ok hk hkl e he hbd)
  · intro j hj hjl
    rw [hne j (by omega)]; exact hI.notail j hj hjl
  · have : (a.put o.dst v).defers = a.defers := by cases o.dst <;> rfl
    rw [this]; exact hI.defers
  · intro j p t hj hp hl hpt hlt
    by_cases hji : j = i
    · subst hji
      have : p = o := by rw [ho] at hp; exact (Option.some.inj hp).symm
      subst this
      simp [Act.put, hpt, hI.size, hlt]
    · rw [hne j hji] at hl
      have hdst : o.dst ≠ some t := fun h => hji (hok.one j p i o t hj hi hp ho h hpt)
      have : (a.put o.dst v).tmps[t]? = a.tmps[t]? := by
        cases hod : o.dst with
        | none => rfl
        | some d => have : d ≠ t := fun e => hdst (by rw [hod, e])
                    simp [Act.put, Array.getElem?_setIfInBounds_ne this]
      rw [this, if_neg hji]
      exact hI.mine j p t hj hp hl hpt hlt
  · intro t ht
    have hdst : o.dst ≠ some t := ht i o hi ho (by simp [hil])
    have : (a.put o.dst v).tmps[t]? = a.tmps[t]? := by
      cases hod : o.dst with
      | none => rfl
      | some d => have : d ≠ t := fun e => hdst (by rw [hod, e])
                  simp [Act.put, Array.getElem?_setIfInBounds_ne this]
    rw [this]
    exact hI.rest t fun j p hj hp hl => ht j p hj hp (getD_set_true hl)
  · exact hI.past.trans (hb.mono hI.past.size)
  · intro j hj hl
    by_cases hji : j = i
    · subst hji; simpa using hR
    · rw [hne j hji] at hl
      simp only [if_neg hji]
      exact hst _ _ _ _ (hI.facts j hj hl) hb
  · intro j hj hl hfj
    by_cases hji : j = i
    · subst hji
      obtain ⟨p, h1, _, h3⟩ := hf hfj
      exact ⟨p, by simpa using h1, h3⟩
    · rw [hne j hji] at hl
      obtain ⟨p, h1, h2⟩ := hI.fresh j hj hl hfj
      exact ⟨p, by simpa [if_neg hji] using h1, Nat.lt_of_lt_of_le h2 hb.size⟩
  · intro j k hj hk hjk hjl hkl hfj hfk
    by_cases hji : j = i
    · subst hji
      rw [hne k (Ne.symm hjk)] at hkl
      obtain ⟨p, h1, h2, _⟩ := hf hfj
      obtain ⟨q, h3, h4⟩ := hI.fresh k hk hkl hfk
      simp only [if_true, if_neg (Ne.symm hjk), h1, h3]
      intro h; (simp at h <;> omega)
    · by_cases hki : k = i
      · subst hki
        rw [hne j hji] at hjl
        obtain ⟨p, h1, h2, _⟩ := hf hfk
        obtain ⟨q, h3, h4⟩ := hI.fresh j hj hjl hfj
        simp only [if_true, if_neg hji, h1, h3]
        intro h; (simp at h <;> omega)
      · rw [hne j hji] at hjl; rw [hne k hki] at hkl
        simp only [if_neg hji, if_neg hki]
        exact hI.apart j k hj hk hjk hjl hkl hfj hfk

/-- All of the first n operations have run: the frame is the whole one. -/
theorem JInv.whole (hok : JOk l n lax) {u : Nat → Value} {listed : Array Bool} {a : Act} {w : World} (hI : JInv l n a0 w0 R fr u listed a w) (_hn : n ≤ l.length)
    (hall : ∀ j, j < n → listed.getD j false = true) : a = frm (l.take n) u 0 a0 := by
  obtain ⟨f1, f2, f3, f4⟩ := frm_spec u (l.take n) 0 a0
  have htm : a.tmps = (frm (l.take n) u 0 a0).tmps := by
    apply Array.ext_getElem?
    intro t
    by_cases h : ∃ (j : Nat) (p : Oper), j < n ∧ l[j]? = some p ∧ p.dst = some t
    · obtain ⟨j, p, hj, hp, hpt⟩ := h
      rcases Nat.lt_or_ge t a0.tmps.size with hlt | hge
      · rw [hI.mine j p t hj hp (hall j hj) hpt hlt, f4 j p t (by rw [List.getElem?_take, if_pos hj]; exact hp) hpt (fun k q hq hne => ?_) hlt]
        · simp
        · intro hqt
          rw [List.getElem?_take] at hq
          split at hq
          · rename_i hk; exact hne (hok.one k q j p t hk hj hq hp hpt hqt)
          · cases hq
      · rw [Array.getElem?_eq_none (by rw [hI.size]; exact hge), Array.getElem?_eq_none (by rw [f1]; exact hge)]
    · rw [hI.rest t (fun j p hj hp _ hpt => h ⟨j, p, hj, hp, hpt⟩), f3 t (fun j p hp hpt => ?_)]
      rw [List.getElem?_take] at hp
      split at hp
      · rename_i hk; exact h ⟨j, p, hk, hp, hpt⟩
      · cases hp
  have hde : a.defers = (frm (l.take n) u 0 a0).defers := by rw [f2]; exact hI.defers
  cases a; cases hq : frm (l.take n) u 0 a0
  rw [hq] at htm hde
  simp only at htm hde
  rw [htm, hde]

def left (n : Nat) (listed : Array Bool) : Nat := ((List.range n).filter fun j => !listed.getD j false).length

theorem left_set {n i : Nat} {listed : Array Bool} (hi : i < n) (hil : i < listed.size) (hun : listed.getD i false = false) : left n (listed.setIfInBounds i true) + 1 ≤ left n listed := by
  unfold left
  have h1 : (List.range n).filter (fun j => !(listed.setIfInBounds i true).getD j false) = ((List.range n).filter fun j => !listed.getD j false).filter (fun j => j != i) := by
    rw [List.filter_filter]
    refine List.filter_congr fun j _ => ?_
    by_cases hji : j = i
    · subst hji; simp [hil]
    · rw [getD_set_ne false (Ne.symm hji)]; simp [hji]
  rw [h1]
  have hmem : i ∈ (List.range n).filter fun j => !listed.getD j false := by simp [List.mem_filter, hi]; simpa using hun
  have : (((List.range n).filter fun j => !listed.getD j false).filter (fun j => j != i)).length < ((List.range n).filter fun j => !listed.getD j false).length := by
    apply Nat.lt_of_not_le
    intro hle
    have := (List.filter_sublist (p := fun j => j != i) (l := (List.range n).filter fun j => !listed.getD j false)).eq_of_length_le hle
    rw [← this] at hmem
    simp at hmem
  omega

/-- What is asked besides of an operation that the tail need not wait for: it gives one value, in whatever world; and all that has not run is apart from it. -/
def JLax (P : Program) (l : List Oper) (n : Nat) (a0 : Act) (w0 : World) (R : Nat → Value → World → Prop) (fr : Nat → Bool) (Q : Exit → Act → World → Prop) (i : Nat) (o : Oper) : Prop :=
  fr i = false ∧
  (∀ c a w v, Q (.panic c) (a.put o.dst v) w → Q (.panic c) a w) ∧
  ∀ (u : Nat → Value) (x : Past w0), (∀ j, j < n → waits l.toArray i j = true → R j (u j) x.1) →
    Region.wanted o (yielded l.toArray (frm (l.take n) u 0 a0).tmps) = true ∧ ∃ v, R i v x.1 ∧ ∀ w, (execOp (frm (l.take n) u 0 a0).eval o).run P w = .ok (.value v) w

theorem prefix_any {Q : Exit → Act → World → Prop} (hn : n ≤ l.length) (hok : JOk l n lax) (hst : ∀ i v w w', R i v w → Below w.heap.size w w' → R i v w')
    (hstep : ∀ (i : Nat) (o : Oper), i < n → l[i]? = some o → JStep P l n a0 w0 R fr i o)
    (hlax : ∀ (i : Nat) (o : Oper), i ∈ lax → l[i]? = some o → JLax P l n a0 w0 R fr Q i o)
    (htail : ∀ (u : Nat → Value) (x : Past w0), (∀ i, i < n → R i (u i) x.1) → (∀ i j, i < n → j < n → i ≠ j → fr i = true → fr j = true → u i ≠ u j) → wpList P l.toArray Q (l.drop n) (frm (l.take n) u 0 a0) x.1) :
    ∀ (m fuel : Nat) (u : Nat → Value) (listed : Array Bool) (a : Act) (w : World), left n listed ≤ m → m + (l.length - n) ≤ fuel → JInv l n a0 w0 R fr u listed a w → wpAny P .any l.toArray Q fuel listed a w := by
  have ending : ∀ (fuel : Nat) (u : Nat → Value) (listed : Array Bool) (a : Act) (w : World), (l.length - n) ≤ fuel → JInv l n a0 w0 R fr u listed a w → (∀ j, j < n → listed.getD j false = true) → wpAny P .any l.toArray Q fuel listed a w := by
    intro fuel u listed a w hf hI hall
    have ha := hI.whole hok hn hall
    refine tail_any (n := n) hok.back (fun i h1 h2 j h3 h4 => hok.tail i h1 h2 j h4 (fun hx => by have := hok.laxLt j hx; omega)) fuel n listed a w (Nat.le_refl _) hn (by omega) hI.shut (fun j hj => ?_) ?_
    · by_cases h : j < n
      · rw [hall j h]; simp [h]
      · rw [hI.notail j (by omega) hj]; simp [h]
    · rw [ha]
      exact htail u ⟨w, hI.past⟩ (fun i hi => hI.facts i hi (hall i hi)) (fun i j hi hj hij h1 h2 => hI.apart i j hi hj hij (hall i hi) (hall j hj) h1 h2)
  intro m
  induction m with
  | zero =>
    intro fuel u listed a w hm hf hI
    refine ending fuel u listed a w (by omega) hI (fun j hj => ?_)
    cases h : listed.getD j false with
    | true => rfl
    | false =>
      exfalso
      have hmem : j ∈ (List.range n).filter fun j => !listed.getD j false := by simp [List.mem_filter, hj]; simpa using h
      have : (List.range n).filter (fun j => !listed.getD j false) = [] := List.length_eq_zero_iff.1 (by unfold left at hm; omega)
      rw [this] at hmem; cases hmem
  | succ m ih =>
    intro fuel u listed a w hm hf hI
    have hlt : ∀ j, j < n → j < listed.size := fun j hj => by rw [hI.shut.size]; simp; omega
    by_cases hall : ∀ j, j < n → listed.getD j false = true
    · exact ending fuel u listed a w (by omega) hI hall
    obtain ⟨fuel, rfl⟩ : ∃ f, fuel = f + 1 := ⟨fuel - 1, by omega⟩
    -- the least operation that has not run is ready
    have hex : ∃ j, j < n ∧ listed.getD j false = false ∧ ∀ k, k < j → listed.getD k false = true := by
      apply Classical.byContradiction
      intro hno
      refine hall fun j => ?_
      induction j using Nat.strongRecOn with
      | ind j ihj =>
        intro hj
        cases h : listed.getD j false with
        | true => rfl
        | false => exact absurd ⟨j, hj, h, fun k hk => ihj k hk (by omega)⟩ hno
    obtain ⟨j0, hj0, hj0l, hj0k⟩ := hex
    have hj0o : l[j0]? = some (l[j0]'(by omega)) := List.getElem?_eq_getElem (by omega)
    have hd0 : ∀ e ∈ (l[j0]'(by omega)).after, Region.binds .any e = true → listed.getD e.on false = true := fun e he hb => hj0k _ (hok.back j0 _ hj0o e he hb)
    have hr0 : j0 ∈ Region.ready .any l.toArray listed := mem_ready.2 ⟨by rw [getD_flip (hlt j0 hj0) true false]; exact hj0l, _, by rw [List.getElem?_toArray]; exact hj0o, hd0⟩
    by_cases hnz : ∀ j, j < n → j ∉ lax → listed.getD j false = true
    · -- what is left of the first n need not be waited for: it may be taken first
      have hx : j0 ∈ lax := Classical.byContradiction fun h => by rw [hnz j0 hj0 h] at hj0l; cases hj0l
      obtain ⟨h1, h3, h4⟩ := hlax j0 _ hx hj0o
      obtain ⟨h5, v, h6, h7⟩ := h4 u ⟨w, hI.past⟩ (fun j hj hw => hI.facts j hj (waits_listed (by rw [List.getElem?_toArray]; exact hj0o) hd0 hw))
      have hlook := look_same hn hok hI hj0 hj0o hd0
      have hsel := fun cs b => Region.noSelect_spec hok.sel j0 _ cs b (by rw [List.getElem?_toArray]; exact hj0o)
      refine wpAny_first (i := j0) (v := v) (by rw [List.getElem?_toArray]; exact hj0o) (Region.noSelect_spec hok.sel) (fun c a w => h3 c a w v) fuel listed a w ?_ hr0 ?_ ?_
      · intro j oj hoj hne hun hno
        rw [List.getElem?_toArray] at hoj
        have hj : n ≤ j ∨ j ∈ lax := by
          rcases Nat.lt_or_ge j n with h | h
          · right
            exact Classical.byContradiction fun hx' => by
              have := hnz j h hx'
              rw [getD_flip (hlt j h) true false, this] at hun; cases hun
          · exact .inl h
        rcases hok.laxA j0 j _ oj hx hj0o hoj hne hj with h | h
        · exfalso
          unfold waits at h
          rw [List.getElem?_toArray, hoj] at h
          obtain ⟨e, he, hb⟩ := Array.any_eq_true'.1 h
          simp only [Bool.and_eq_true, beq_iff_eq] at hb
          exact hno e he hb.1 hb.2
        · exact h
      · refine .inl ⟨by rw [wanted_same hlook]; exact h5, fun w' => ?_⟩
        rw [exec_same hsel hlook]; exact h7 w'
      · exact ih fuel _ _ _ _ (by have := left_set hj0 (hlt j0 hj0) hj0l; omega) (by omega) (hI.next hok hst hj0 hn hj0o hj0l hd0 (Below.refl _ _) h6 (fun h => by rw [h1] at h; cases h))
    · refine ⟨fun h0 => (by rw [h0] at hr0; cases hr0), fun i hi => ?_⟩
      obtain ⟨hun, o, ho, hd⟩ := mem_ready.1 hi
      have hil : i < l.length := by
        rcases Nat.lt_or_ge i l.length with h | h
        · exact h
        · simp [List.getElem?_eq_none h] at ho
      have hol : l[i]? = some o := by simpa using ho
      have hun' : listed.getD i false = false := by rw [← getD_flip (by rw [hI.shut.size]; simp; exact hil) true false]; exact hun
      have hin : i < n := by
        rcases Nat.lt_or_ge i n with h | h
        · exact h
        · exfalso
          exact hnz fun j hj hx => coverX_listed hI.shut i j o ho hd (hok.tail i h hil j (by omega) hx)
      have hlook := look_same hn hok hI hin hol hd
      have hs := hstep i o hin hol u ⟨w, hI.past⟩ (fun j hj hw => hI.facts j hj (waits_listed ho hd hw))
      have hsel := fun cs b => Region.noSelect_spec hok.sel i o cs b ho
      unfold wpOp
      simp only [ho]
      rw [wanted_same hlook]
      have go : ∀ v w', Below w.heap.size w w' → R i v w' → (fr i = true → ∃ p, v = .pointer (some ⟨p, 0, none⟩) ∧ w.heap.size ≤ p ∧ p < w'.heap.size) →
          wpAny P .any l.toArray Q fuel (listed.setIfInBounds i true) (a.put o.dst v) w' := fun v w' h1 h2 h3 =>
        ih fuel _ _ _ _ (by have := left_set hin (hlt i hin) hun'; omega) (by omega) (hI.next hok hst hin hn hol hun' hd h1 h2 h3)
      split
      · rename_i hwant
        rw [if_pos hwant] at hs
        refine .inl ?_
        unfold Oper.wp
        rw [exec_same hsel hlook]
        exact upon_of_gives hs fun v w' ⟨h1, h2, h3⟩ => go v w' h1 h2 h3
      · rename_i hwant
        rw [if_neg hwant] at hs
        exact go undef w (Below.refl _ _) hs.1 (fun h => by rw [hs.2] at h; cases h)

/-- A REGION THAT DRAWS ITS ORDER: the first n operations in whatever order, each by what it waits for; then the tail. -/
theorem wp_region_J {id : Nat} {Q : Exit → Act → World → Prop} (n : Nat) (lax : List Nat) (R : Nat → Value → World → Prop) (fr : Nat → Bool) (hm : P.follows .mixedOrders = true) (hn : n ≤ l.length) (hok : jOk l n lax = true)
    (hst : ∀ i v w w', R i v w → Below w.heap.size w w' → R i v w')
    (hstep : ∀ (i : Nat) (o : Oper), i < n → l[i]? = some o → JStep P l n a0 w0 R fr i o)
    (hlax : ∀ (i : Nat) (o : Oper), i ∈ lax → l[i]? = some o → JLax P l n a0 w0 R fr Q i o)
    (htail : ∀ (u : Nat → Value) (x : Past w0), (∀ i, i < n → R i (u i) x.1) → (∀ i j, i < n → j < n → i ≠ j → fr i = true → fr j = true → u i ≠ u j) → wpList P l.toArray Q (l.drop n) (frm (l.take n) u 0 a0) x.1) :
    (Code.region id l.toArray true).wp P Q a0 w0 := by
  have hok' := jOk_spec hok
  refine wp_region_any hm ?_
  have hun : ∀ j, (Array.replicate l.toArray.size false).getD j false = false := fun j => by
    simp only [Array.getD_eq_getD_getElem?, Array.getElem?_replicate]; split <;> rfl
  refine prefix_any hn hok' hst hstep hlax htail n l.toArray.size (fun _ => undef) _ a0 _ ?_ (by simp; omega) ?_
  · unfold left
    exact Nat.le_trans (List.length_filter_le _ _) (by simp)
  · have no : ∀ (j : Nat) (q : Prop), (Array.replicate l.toArray.size false).getD j false = true → q := fun j q h => by rw [hun] at h; cases h
    exact {
      shut := ⟨by simp, fun i o _ h => no i _ h⟩
      notail := fun j _ _ => hun j
      size := rfl
      defers := rfl
      mine := fun j o t _ _ h => no j _ h
      rest := fun _ _ => rfl
      past := (Below.refl _ _).drew
      facts := fun j _ h => no j _ h
      fresh := fun j _ h => no j _ h
      apart := fun i j _ _ _ h => no i _ h }

end

/-- The value is known; it is a new block's address, and the block is known. -/
def detR (v0 : Value) : Value → World → Prop := fun v _ => v = v0
def newR (B : Nat) (cs : Array Value) (t : TypeId) : Value → World → Prop := fun v w => ∃ p, v = .pointer (some ⟨p, 0, none⟩) ∧ B ≤ p ∧ Blk w p cs t
/-- The value is a slice over the whole of a new block. -/
def sliR (B n : Nat) (cs : Array Value) (t : TypeId) : Value → World → Prop := fun v w => ∃ p, v = .slice (some ⟨p, 0, none⟩) n n ∧ B ≤ p ∧ Blk w p cs t
def Stab (r : Value → World → Prop) : Prop := ∀ v w w', r v w → Below w.heap.size w w' → r v w'
theorem stab_det (v0 : Value) : Stab (detR v0) := fun _ _ _ h _ => h
theorem stab_new (B : Nat) (cs : Array Value) (t : TypeId) : Stab (newR B cs t) := fun _ _ _ ⟨p, h1, h2, h3⟩ hb => ⟨p, h1, h2, h3.past hb⟩
theorem stab_sli (B n : Nat) (cs : Array Value) (t : TypeId) : Stab (sliR B n cs t) := fun _ _ _ ⟨p, h1, h2, h3⟩ hb => ⟨p, h1, h2, h3.past hb⟩
def nthR (rs : List (Value → World → Prop)) (i : Nat) : Value → World → Prop := rs.getD i (fun _ _ => True)
theorem stab_nth {rs : List (Value → World → Prop)} (h : ∀ r ∈ rs, Stab r) : ∀ i v w w', nthR rs i v w → Below w.heap.size w w' → nthR rs i v w' := by
  intro i v w w' h1 h2
  unfold nthR at *
  rcases Nat.lt_or_ge i rs.length with hl | hl
  · rw [List.getD_eq_getElem?_getD, List.getElem?_eq_getElem hl] at *
    exact h _ (List.getElem_mem hl) v w w' h1 h2
  · rw [List.getD_eq_getElem?_getD, List.getElem?_eq_none hl]
    trivial

/-- A region in the text's order whose operations read and call what only makes memory: the same walk. -/
theorem wpList_of_quiet {P : Program} {ops : Array Oper} {C : World → Prop} {Q : Act → Prop} {Q' : Exit → Act → World → Prop} (hQ : ∀ a w, C w → Q a → Q' .normal a w) :
    ∀ (l : List Oper) (a : Act) (w : World), C w → wpQuiet P ops C Q l a → wpList P ops Q' l a w := by
  intro l
  induction l with
  | nil => intro a w hw h; exact hQ a w hw h
  | cons o r ih =>
    intro a w hw h
    unfold wpQuiet at h
    unfold wpList
    split
    · rename_i hwant
      rw [if_pos hwant] at h
      exact .inl (Oper.wp_of_quiet hw (fun a' w' hw' h' => ih a' w' hw' h') h)
    · rename_i hwant
      rw [if_neg hwant] at h
      exact ih _ _ hw h
theorem wp_region_past_seq {P : Program} {id : Nat} {Q : Exit → Act → World → Prop} {a : Act} {w : World} {l : List Oper}
    (h : wpQuiet P l.toArray (fun w' => ∃ x : Past w, w' = x.1) (fun a' => ∀ w', (∃ x : Past w, w' = x.1) → Q .normal a' w') l a) : (Code.region id l.toArray false).wp P Q a w :=
  wp_region_list (by
    have := wpList_of_quiet (P := P) (ops := l.toArray) (C := fun w' => ∃ x : Past w, w' = x.1) (Q := fun a' => ∀ w', (∃ x : Past w, w' = x.1) → Q .normal a' w') (Q' := Q) (fun a w hw h => h w hw) l a w ⟨⟨w, Below.refl _ _⟩, rfl⟩ h
    simpa using this)

end Go.Proofs.Ytpcgeaphfpcghaa

namespace Go.Proofs.Ytpcgeaphfpcghaa
open Go.ChangeShapes Go.WideShapes Go.ChangeAt Go.RowKit
attribute [local irreducible] Go.Calls

theorem tsame_len {b : Bool} {l r : List Tok} (h : l.length ≠ r.length) : sameT b l r = false := by
  unfold sameT
  refine decide_eq_false fun e => h ?_
  cases b
  · simpa using congrArg List.length e
  · exact congrArg List.length e
/-- The tokens at a place are the same. -/
def eqAt (b : Bool) (l r : List Tok) (k : Nat) : Prop := if b then l.getD k tk0 = r.getD k tk0 else noPos (l.getD k tk0) = noPos (r.getD k tk0)
theorem tsame_no {b : Bool} {l r : List Tok} {k : Nat} (h1 : k < l.length) (hl : l.length = r.length) (h : ¬ eqAt b l r k) : sameT b l r = false := by
  unfold sameT
  refine decide_eq_false fun e => h ?_
  unfold eqAt
  cases b
  · simp only [Bool.false_eq_true, if_false] at e ⊢
    have := congrArg (fun z => z[k]?) e
    simpa [List.getD, h1, hl ▸ h1] using this
  · simp only [if_true] at e ⊢
    rw [e]
theorem tsame_yes {b : Bool} {l r : List Tok} (hl : l.length = r.length) (h : ∀ k, k < l.length → eqAt b l r k) : sameT b l r = true := by
  unfold sameT
  refine decide_eq_true ?_
  unfold eqAt at h
  cases b
  · simp only [Bool.false_eq_true, if_false] at h ⊢
    apply List.ext_getElem (by simpa using hl)
    intro i h1 h2
    have h1' : i < l.length := by simpa using h1
    have := h i h1'
    simpa [List.getD, h1', hl ▸ h1'] using this
  · simp only [if_true] at h ⊢
    apply List.ext_getElem hl
    intro i h1 h2
    have := h i h1
    simpa [List.getD, h1, h2] using this
theorem tok_iff {x y : Tok} : x = y ↔ x.kind = y.kind ∧ x.text = y.text ∧ x.num = y.num ∧ x.pos = y.pos := by
  obtain ⟨x1, x2, x3, x4⟩ := x
  obtain ⟨y1, y2, y3, y4⟩ := y
  simp
theorem CellsT.get {w : World} {b off : Nat} {l : List Tok} (h : CellsT w b off l) {i : Nat} (hi : i < l.length) : w.cell? ⟨b, off + i * 4, none⟩ = some (.int .u8 (l.getD i tk0).kind) ∧ w.cell? ⟨b, off + i * 4 + 1, none⟩ = some (strV (l.getD i tk0).text) ∧ w.cell? ⟨b, off + i * 4 + 2, none⟩ = some (.int .i64 (l.getD i tk0).num) ∧ w.cell? ⟨b, off + i * 4 + 3, none⟩ = some (.int .i64 (l.getD i tk0).pos) := h i hi
set_option maxHeartbeats 1000000 in
theorem rsameT_c (l r : List Tok) (a a2 : Option Addr) (cap cap2 : Nat) (b : Bool) (w : World) (hl : l.length < 4294967296) (hr : r.length < 4294967296) (ha : ArgT w a l) (hb : ArgT w a2 r) :
    Calls Try.prog 9 #[.slice a l.length cap, .slice a2 r.length cap2, .bool b] w fun e w' => e = .returned (.bool (sameT b l r)) ∧ Below w.heap.size w w' := by
  have HA := hidE ha; have HA' := hidE hb; clear ha hb
  by_cases hlen : l.length = r.length
  · have e1 : ((l.length : Int) != (r.length : Int)) = false := by rw [hlen]; simp
    have HL := hidE hlen
    have le1 : l.length ≤ r.length := by omega
    clear hlen
    go_enter Try.func9, Try.ntmps9
    go_wp2
    go_loopg [7] l.length (fun g vi wr => ∃ k : Nat, k ≤ l.length ∧ l.length - k ≤ g ∧ vi = .int .i64 k ∧ (∀ i, i < k → eqAt b l r i) ∧ Below w.heap.size w wr)
    case atStart => exact ⟨0, Nat.zero_le _, by omega, rfl, fun i hi => by omega, Below.refl _ _⟩
    case round =>
      obtain ⟨k, hk, hg, rfl, hs, hb⟩ := hrel
      have HS := hidE hs; have HB := hidE hb; clear hs hb
      by_cases hlt : k < l.length
      · obtain ⟨p, off, rfl, hb, hc⟩ := (HA.out.past HB.out) (by omega)
        obtain ⟨c0, c1, c2, c3⟩ := hc.get hlt
        obtain ⟨p', off', rfl, hb', hc'⟩ := (HA'.out.past HB.out) (by omega)
        obtain ⟨d0, d1, d2, d3⟩ := hc'.get (i := k) (by omega)
        clear hc hc'
        have HY := hidE (show eqAt b l r k → ∀ i, i < k + 1 → eqAt b l r i from fun h0 i hi => by
            by_cases e : i = k
            · rw [e]; exact h0
            · exact HS.out i (by omega))
        have HN := hidE (show ¬ eqAt b l r k → sameT b l r = false from fun h0 => tsame_no hlt HL.out h0)
        have HE1 := hidE (show eqAt b l r k ↔ (l.getD k tk0).kind = (r.getD k tk0).kind ∧ (l.getD k tk0).text = (r.getD k tk0).text ∧ (l.getD k tk0).num = (r.getD k tk0).num ∧ (b = true → (l.getD k tk0).pos = (r.getD k tk0).pos) from by
          unfold eqAt
          cases b
          · unfold noPos; simp [-List.getD_eq_getElem?_getD]
          · rw [if_pos rfl, tok_iff]; simp [-List.getD_eq_getElem?_getD])
        generalize l.getD k tk0 = x at *
        generalize r.getD k tk0 = y at *
        obtain ⟨x1, x2, x3, x4⟩ := x
        obtain ⟨y1, y2, y3, y4⟩ := y
        simp only at c0 c1 c2 c3 d0 d1 d2 d3 HE1
        have i1 : (0 : Int) ≤ (k : Int) := by omega
        have i2 : (k : Int) < (l.length : Int) := by omega
        have i3 : (k : Int) < (r.length : Int) := by omega
        go_wp2
        go_region_held3 (fun w' => w'.cell? ⟨p, off + k * 4, none⟩ = some (.int .u8 x1) ∧ w'.cell? ⟨p, off + k * 4 + 1, none⟩ = some (strV x2) ∧ w'.cell? ⟨p, off + k * 4 + 2, none⟩ = some (.int .i64 x3) ∧ w'.cell? ⟨p, off + k * 4 + 3, none⟩ = some (.int .i64 x4) ∧ w'.cell? ⟨p', off' + k * 4, none⟩ = some (.int .u8 y1) ∧ w'.cell? ⟨p', off' + k * 4 + 1, none⟩ = some (strV y2) ∧ w'.cell? ⟨p', off' + k * 4 + 2, none⟩ = some (.int .i64 y3) ∧ w'.cell? ⟨p', off' + k * 4 + 3, none⟩ = some (.int .i64 y4)) (go_keep) (fail)
        all_goals cases b
        all_goals go_wp2
        all_goals
          first
          | (go_ret
             refine ⟨?_, by have := HB.out; (repeat (first | exact Below.refl _ _ | assumption | refine balloc ?_ _ | refine below_drewN ?_ _ | refine bstep (by assumption) ?_ | refine bstep (Past.prop _) ?_ | refine Below.setCell ?_ (by first | exact Nat.le_refl _ | (simp; done) | (simp; omega)) _))⟩
             refine ret_bool (HN.out fun h0 => ?_).symm
             obtain ⟨p1, p2, p3, p4⟩ := HE1.out.1 h0
             first
             | exact absurd p3 (by assumption)
             | exact absurd p2 (by assumption)
             | (exfalso; omega)
             | (have p5 := p4 trivial; exfalso; omega)
             | (have p5 := p4 rfl; exfalso; omega))
          | (go_roundg (l.length - (k + 1))
             case measure => omega
             case rel =>
               refine ⟨k + 1, by omega, Nat.le_refl _, by go_num, HY.out ?_, by have := HB.out; (repeat (first | exact Below.refl _ _ | assumption | refine balloc ?_ _ | refine below_drewN ?_ _ | refine bstep (by assumption) ?_ | refine bstep (Past.prop _) ?_ | refine Below.setCell ?_ (by first | exact Nat.le_refl _ | (simp; done) | (simp; omega)) _))⟩
               exact HE1.out.2 ⟨by omega, by assumption, by assumption, fun h => by first | omega | exact absurd h (by decide)⟩)
      · have HX := hidE (tsame_yes HL.out fun i hi => HS.out i (by omega))
        have e2 : decide ((k : Int) < (l.length : Int)) = false := decide_eq_false (by omega)
        go_wp2
        go_ret
        exact ⟨ret_bool HX.out.symm, HB.out⟩
  · have HE := hidE (tsame_len (b := b) hlen)
    have e1 : ((l.length : Int) != (r.length : Int)) = true := by rw [bne_iff_ne]; omega
    rw [HE.out]
    go_enter Try.func9, Try.ntmps9
    go_wp2
    go_ret
    exact ⟨rfl, Below.refl _ _⟩
end Go.Proofs.Ytpcgeaphfpcghaa

namespace Go.Proofs.Ytpcgeaphfpcghaa
open Go.ChangeShapes Go.WideShapes Go.ChangeAt Go.RowKit
attribute [local irreducible] Go.Calls

theorem lexS_ok {s : List UInt8} {l : List Tok} (h : s.length ≤ 4096) (h2 : lexG 0 s = .ok l) : lexS s = (l, 0, 0) := by unfold lexS; rw [if_neg (by omega), h2]
theorem lexS_no {s : List UInt8} {p : Nat} (h : s.length ≤ 4096) (h2 : lexG 0 s = .error p) : lexS s = ([], p, 60) := by unfold lexS; rw [if_neg (by omega), h2]
theorem lexS_long {s : List UInt8} (h : 4096 < s.length) : lexS s = ([], 0, 3) := by unfold lexS; rw [if_pos h]
theorem lex_is {s : List UInt8} {l : List Tok} {p : Nat} {er : Int} (h : lexS s = (l, p, er)) (hs : s.length ≤ 9223372036854775807) (ba : ByteArray) (hb : ba = ⟨s.toArray⟩) (w : World) : Calls Try.prog 6 #[.string ba] w (LexIs w l p er) := by
  have := lex_c s w hs
  rw [h] at this
  rw [hb]
  exact this
theorem text_is {l : List Tok} {s : List UInt8} (h : textG l = s) (hl : l.length ≤ 1000000) (hz : s.length ≤ 1000000000) (ba : ByteArray) (hb : ba = ⟨s.toArray⟩) (n : Nat) (hn : n = l.length) (a : Option Addr) (cap : Nat) (w : World) (hA : ArgT w a l) : Calls Try.prog 8 #[.slice a n cap] w fun e w' => e = .returned (.string ba) ∧ Below w.heap.size w w' := by
  subst h hn hb
  exact text_c l a cap w hl hz hA
theorem bad_c (s : List UInt8) (p : Nat) (z : Int) (hz : z = p) (ba : ByteArray) (hb : ba = ⟨s.toArray⟩) (h : s.length ≤ 4096) (h2 : lexG 0 s = .error p) (w : World) : Calls Try.prog 17 #[.string ba, .int .i64 z] w fun e w' => e = .returned (.bool true) ∧ Below w.heap.size w w' := by
  have HL := hidE (fun w => lex_is (lexS_no h h2) (by omega) ba hb w)
  subst hz
  clear h h2 hb
  go_enter Try.func17, Try.ntmps17
  go_wp2_with fail
  ((with_reducible refine (HL.out _).mono ?_))
  rintro e w1 ⟨v, rfl, ⟨a, cap, rfl, _, _, _⟩, hb1⟩
  go_wp2
  go_ret
  exact ⟨rfl, hb1⟩
theorem head_want (w : World) (t : TypeId) : ArgT (w.alloc (.cells #[.int .u8 2, .string ⟨#[40]⟩, .int .i64 0, .int .i64 0, .int .u8 0, .string ⟨#[97, 116, 111, 109]⟩, .int .i64 0, .int .i64 1, .int .u8 1, .string ⟨#[50]⟩, .int .i64 2, .int .i64 6, .int .u8 1, .string ⟨#[49]⟩, .int .i64 1, .int .i64 8, .int .u8 1, .string ⟨#[49, 48]⟩, .int .i64 10, .int .i64 10, .int .u8 3, .string ⟨#[41]⟩, .int .i64 0, .int .i64 12] t)) (some ⟨w.heap.size, 0, none⟩) hd1T :=
  argT_blk (t := t) (Blk.made _ _ _)
set_option maxHeartbeats 2000000 in
theorem head_c (w : World) : Calls Try.prog 7 #[] w fun e w' => e = .returned (.bool true) ∧ Below w.heap.size w w' := by
  have H1 := hidE (fun w => lex_is (lexS_ok (by decide) hd1_lex) (by decide) ⟨#[40, 97, 116, 111, 109, 32, 50, 32, 49, 32, 49, 48, 41]⟩ rfl w)
  have H2 := hidE (fun w => lex_is (lexS_ok (by decide) hd2_lex) (by decide) ⟨#[102, 114, 111, 109, 32, 48, 32, 116, 111, 32, 57, 58, 32, 120]⟩ rfl w)
  have H3 := hidE (fun w => lex_is (s := []) (lexS_ok (by decide) (lexG_nil 0)) (by decide) ⟨#[]⟩ rfl w)
  have T1 := hidE (fun a cap w hA => text_is hd1_text (by decide) (by decide) ⟨#[40, 97, 116, 111, 109, 32, 50, 32, 49, 32, 49, 48, 41]⟩ rfl 6 rfl a cap w hA)
  have T2 := hidE (fun a cap w hA => text_is hd2_text (by decide) (by decide) ⟨#[102, 114, 111, 109, 32, 48, 32, 116, 111, 32, 57, 58, 32, 120]⟩ rfl 6 rfl a cap w hA)
  have B3 := hidE (fun w => bad_c _ 0 0 rfl ⟨#[97, 49]⟩ rfl (by decide) hd3_lex w)
  have B4 := hidE (fun w => bad_c _ 0 0 rfl ⟨#[48, 55]⟩ rfl (by decide) hd4_lex w)
  have B5 := hidE (fun w => bad_c _ 0 0 rfl ⟨#[49, 48, 57, 57, 53, 49, 49, 54, 50, 55, 55, 55, 55]⟩ rfl (by decide) hd5_lex w)
  have B6 := hidE (fun w => bad_c _ 2 2 rfl ⟨#[97, 32, 45, 32, 98]⟩ rfl (by decide) hd6_lex w)
  have SM := hidE (fun (a a2 : Option Addr) (cap cap2 : Nat) w ha hb => show Calls Try.prog 9 #[.slice a 6 cap, .slice a2 6 cap2, .bool true] w fun e w' => e = .returned (.bool true) ∧ Below w.heap.size w w' from rsameT_c hd1T hd1T a a2 cap cap2 true w (by decide) (by decide) ha hb)
  go_enter Try.func7, Try.ntmps7
  go_wp2_with fail
  ((with_reducible refine (H1.out _).mono ?_))
  rintro e w1 ⟨v1, rfl, ⟨a1, c1, rfl, _, _, hA1⟩, hb1⟩
  rw [show hd1T.length = 6 from rfl]
  have HA1 := hidE hA1; have HB1 := hidE hb1
  clear hA1 hb1
  go_wp2_with fail
  have HAW := hidE (head_want w1 30)
  have HBW := hidE (HB1.out.alloc HB1.out.size (.cells #[.int .u8 2, .string ⟨#[40]⟩, .int .i64 0, .int .i64 0, .int .u8 0, .string ⟨#[97, 116, 111, 109]⟩, .int .i64 0, .int .i64 1, .int .u8 1, .string ⟨#[50]⟩, .int .i64 2, .int .i64 6, .int .u8 1, .string ⟨#[49]⟩, .int .i64 1, .int .i64 8, .int .u8 1, .string ⟨#[49, 48]⟩, .int .i64 10, .int .i64 10, .int .u8 3, .string ⟨#[41]⟩, .int .i64 0, .int .i64 12] 30))
  have HA1' := hidE (HA1.out.past ((Below.refl _ w1).alloc (Nat.le_refl _) (.cells #[.int .u8 2, .string ⟨#[40]⟩, .int .i64 0, .int .i64 0, .int .u8 0, .string ⟨#[97, 116, 111, 109]⟩, .int .i64 0, .int .i64 1, .int .u8 1, .string ⟨#[50]⟩, .int .i64 2, .int .i64 6, .int .u8 1, .string ⟨#[49]⟩, .int .i64 1, .int .i64 8, .int .u8 1, .string ⟨#[49, 48]⟩, .int .i64 10, .int .i64 10, .int .u8 3, .string ⟨#[41]⟩, .int .i64 0, .int .i64 12] 30)))
  clear HA1 HB1
  generalize w1.alloc (.cells #[.int .u8 2, .string ⟨#[40]⟩, .int .i64 0, .int .i64 0, .int .u8 0, .string ⟨#[97, 116, 111, 109]⟩, .int .i64 0, .int .i64 1, .int .u8 1, .string ⟨#[50]⟩, .int .i64 2, .int .i64 6, .int .u8 1, .string ⟨#[49]⟩, .int .i64 1, .int .i64 8, .int .u8 1, .string ⟨#[49, 48]⟩, .int .i64 10, .int .i64 10, .int .u8 3, .string ⟨#[41]⟩, .int .i64 0, .int .i64 12] 30) = w2 at *
  generalize w1.heap.size = pw at *
  ((with_reducible refine (H2.out _).mono ?_))
  rintro e w3 ⟨v3, rfl, ⟨a3, c3, rfl, _, _, hA3⟩, hb3⟩
  rw [show hd2T.length = 6 from rfl]
  have HA3 := hidE hA3
  have HB3 := hidE (HBW.out.trans (hb3.mono HBW.out.size))
  have HA1 := hidE (HA1'.out.past hb3)
  have HAW3 := hidE (HAW.out.past hb3)
  clear hA3 hb3 HA1' HAW HBW
  go_wp2_with fail
  ((with_reducible refine (H3.out _).mono ?_))
  rintro e w4 ⟨v4, rfl, ⟨a4, c4, rfl, _, _, _⟩, hb4⟩
  have HA3' := hidE (HA3.out.past hb4)
  have HB4 := hidE (HB3.out.trans (hb4.mono HB3.out.size))
  have HA1' := hidE (HA1.out.past hb4)
  have HAW' := hidE (HAW3.out.past hb4)
  clear hb4 HA1 HAW3 HA3 HB3
  go_wp2_with fail
  ((with_reducible refine (SM.out _ _ _ _ _ HA1'.out HAW'.out).mono ?_))
  rintro e w5 ⟨rfl, hb5⟩
  have HA3 := hidE (HA3'.out.past hb5)
  have HB5 := hidE (HB4.out.trans (hb5.mono HB4.out.size))
  have HA1 := hidE (HA1'.out.past hb5)
  clear hb5 HA1' HAW' HA3' HB4
  go_wp2_with fail
  ((with_reducible refine (T1.out _ _ _ HA1.out).mono ?_))
  rintro e w6 ⟨rfl, hb6⟩
  have HA3' := hidE (HA3.out.past hb6)
  have HB6 := hidE (HB5.out.trans (hb6.mono HB5.out.size))
  clear hb6 HA1 HA3 HB5
  go_wp2_with fail
  ((with_reducible refine (T2.out _ _ _ HA3'.out).mono ?_))
  rintro e w7 ⟨rfl, hb7⟩
  have HB7 := hidE (HB6.out.trans (hb7.mono HB6.out.size))
  clear hb7 HA3' HB6
  go_wp2_with fail
  ((with_reducible refine (B3.out _).mono ?_))
  rintro e w8 ⟨rfl, hb8⟩
  have HB8 := hidE (HB7.out.trans (hb8.mono HB7.out.size))
  clear hb8 HB7
  go_wp2_with fail
  ((with_reducible refine (B4.out _).mono ?_))
  rintro e w9 ⟨rfl, hb9⟩
  have HB9 := hidE (HB8.out.trans (hb9.mono HB8.out.size))
  clear hb9 HB8
  go_wp2_with fail
  ((with_reducible refine (B5.out _).mono ?_))
  rintro e w10 ⟨rfl, hb10⟩
  have HB10 := hidE (HB9.out.trans (hb10.mono HB9.out.size))
  clear hb10 HB9
  go_wp2_with fail
  ((with_reducible refine (B6.out _).mono ?_))
  rintro e w11 ⟨rfl, hb11⟩
  have HB11 := hidE (HB10.out.trans (hb11.mono HB10.out.size))
  clear hb11 HB10
  go_wp2
  go_ret
  exact ⟨rfl, HB11.out⟩
end Go.Proofs.Ytpcgeaphfpcghaa

namespace Go.Proofs.Ytpcgeaphfpcghaa
open Go.ChangeShapes Go.WideShapes Go.ChangeAt Go.RowKit

theorem str_add (w : World) (a b : List UInt8) (h : a.length + b.length ≤ 9223372036854775807) : (Op.stringOp .add ⟨a.toArray⟩ ⟨b.toArray⟩).run Try.prog w = .ok (strV (a ++ b)) w := by
  rw [run_string_add_sum (P := Try.prog) w ⟨a.toArray⟩ ⟨b.toArray⟩ (by simpa [ByteArray.size] using h)]
  have e : (⟨a.toArray⟩ : ByteArray) ++ ⟨b.toArray⟩ = ⟨(a ++ b).toArray⟩ := by
    rw [ByteArray.ext_iff, ByteArray.data_append]
    simp
  rw [e]
end Go.Proofs.Ytpcgeaphfpcghaa

namespace Go.Proofs.Ytpcgeaphfpcghaa
open Go.ChangeShapes Go.WideShapes Go.ChangeAt Go.RowKit
attribute [local irreducible] Go.Calls

def whiteN (n : Nat) : Bool := decide (n = 32 ∨ n = 9 ∨ n = 10 ∨ n = 13)
theorem whiteN_of (c : UInt8) : whiteN c.toNat = whiteB c := by
  unfold whiteN whiteB
  rw [Bool.eq_iff_iff]
  simp only [decide_eq_true_iff, Bool.or_eq_true, beq_iff_eq, ← UInt8.toNat_inj]
  simp only [show (32 : UInt8).toNat = 32 from rfl, show (9 : UInt8).toNat = 9 from rfl, show (10 : UInt8).toNat = 10 from rfl, show (13 : UInt8).toNat = 13 from rfl]
  omega
theorem rwhite_n (n : Nat) (w : World) :
    Calls Try.prog 10 #[.int .u8 n] w fun e w' => e = .returned (.bool (whiteN n)) ∧ w' = w := by
  by_cases h1 : n = 32
  · have HE := hidE (show whiteN n = true from decide_eq_true (.inl h1))
    have e1 : ((n : Int) == 32) = true := by simp [h1]
    rw [HE.out]
    clear h1
    go_enter Try.func10, Try.ntmps10
    go_wp2
    go_ret
    exact ⟨rfl, rfl⟩
  have e1 : ((n : Int) == 32) = false := by simp; omega
  by_cases h2 : n = 9
  · have HE := hidE (show whiteN n = true from decide_eq_true (.inr (.inl h2)))
    have e2 : ((n : Int) == 9) = true := by simp [h2]
    rw [HE.out]
    clear h2
    go_enter Try.func10, Try.ntmps10
    go_wp2
    go_ret
    exact ⟨rfl, rfl⟩
  have e2 : ((n : Int) == 9) = false := by simp; omega
  by_cases h3 : n = 10
  · have HE := hidE (show whiteN n = true from decide_eq_true (.inr (.inr (.inl h3))))
    have e3 : ((n : Int) == 10) = true := by simp [h3]
    rw [HE.out]
    clear h3
    go_enter Try.func10, Try.ntmps10
    go_wp2
    go_ret
    exact ⟨rfl, rfl⟩
  have e3 : ((n : Int) == 10) = false := by simp; omega
  by_cases h4 : n = 13
  · have HE := hidE (show whiteN n = true from decide_eq_true (.inr (.inr (.inr h4))))
    have e4 : ((n : Int) == 13) = true := by simp [h4]
    rw [HE.out]
    clear h4
    go_enter Try.func10, Try.ntmps10
    go_wp2
    go_ret
    exact ⟨rfl, rfl⟩
  have e4 : ((n : Int) == 13) = false := by simp; omega
  have HE := hidE (show whiteN n = false from decide_eq_false (by omega))
  rw [HE.out]
  clear h1 h2 h3 h4
  go_enter Try.func10, Try.ntmps10
  go_wp2
  go_ret
  exact ⟨rfl, rfl⟩
theorem rwhite_c (c : UInt8) (w : World) :
    Calls Try.prog 10 #[.int .u8 c.toNat] w fun e w' => e = .returned (.bool (whiteB c)) ∧ w' = w := by
  rw [← whiteN_of]; exact rwhite_n c.toNat w
theorem dig_len : ∀ (m n : Nat), n ≤ m → (digG n).length ≤ n + 1
  | m, n, hm => by
    by_cases h : n < 10
    · rw [digG, if_pos h]; simp
    · cases m with
      | zero => omega
      | succ m =>
        have ih := dig_len m (n / 10) (by omega)
        rw [digG, if_neg h, List.length_append]
        simp only [List.length_cons, List.length_nil]
        omega
/-- One byte in a block of its own, as a string. -/
theorem conv_one (w : World) (n : Nat) (h : n < 256) :
    (convert 33 9 (.slice (some ⟨w.heap.size, 0, none⟩) 1 1)).run Try.prog (w.alloc (.cells #[.int .u8 n] 5)) = .ok (strV [UInt8.ofNat n]) (w.alloc (.cells #[.int .u8 n] 5)) := by
  have hn : ((UInt8.ofNat n).toNat : Int) = n := by rw [UInt8.toNat_ofNat', Nat.mod_eq_of_lt h]
  refine run_convert_bytes_back (P := Try.prog) (w.alloc (.cells #[.int .u8 n] 5)) 33 9 5 ⟨w.heap.size, 0, none⟩ 1 [UInt8.ofNat n] (by kernel_rfl) (by kernel_rfl) (by kernel_rfl) fun j hj => ?_
  have hj0 : j = 0 := by simp at hj; exact hj
  subst hj0
  rw [new_cellsT w #[.int .u8 n] 5 0 (.int .u8 n) rfl]
  show some (Value.int .u8 n) = some (.int .u8 ((UInt8.ofNat n).toNat : Int))
  rw [hn]
/-- A number's digits, as the statements have them. -/
theorem ldigits_c : ∀ (m n : Nat) (w : World), n ≤ m → n ≤ 1125899906842624 →
    Calls Try.prog 11 #[.int .i64 n] w fun e w' => e = .returned (strV (digG n)) ∧ Below w.heap.size w w'
  | m, n, w, hm, hn => by
    by_cases h : n < 10
    · have HE := hidE (show digG n = [UInt8.ofNat (48 + n)] by rw [digG, if_pos h])
      have e1 : decide ((n : Int) < 10) = true := decide_eq_true (by omega)
      have e2 : (n : Int).tmod 10 = n := by rw [Int.tmod_eq_of_lt (by omega) (by omega)]
      have hc := conv_one w (48 + n) (by omega)
      rw [show ((48 + n : Nat) : Int) = 48 + (n : Int) by omega] at hc
      rw [HE.out]
      generalize UInt8.ofNat (48 + n) = c at *
      go_enter Try.func11, Try.ntmps11
      go_wp2
      go_ret
      exact ⟨rfl, (Below.refl _ _).alloc (Nat.le_refl _) _⟩
    · cases m with
      | zero => omega
      | succ m =>
        have HE := hidE (show digG n = digG (n / 10) ++ [UInt8.ofNat (48 + n % 10)] by rw [digG, if_neg h])
        have e1 : decide ((n : Int) < 10) = false := decide_eq_false (by omega)
        have e2 : (n : Int).tmod 10 = (n % 10 : Nat) := by rw [Int.tmod_eq_emod_of_nonneg (by omega)]; omega
        have e3 : (n : Int).tdiv 10 = (n / 10 : Nat) := by rw [Int.tdiv_eq_ediv_of_nonneg (by omega)]; omega
        have hq : n / 10 ≤ m := by omega
        have hq2 : n / 10 ≤ 1125899906842624 := by omega
        have hd : n % 10 < 10 := by omega
        have hlen := dig_len (n / 10) (n / 10) (Nat.le_refl _)
        rw [HE.out]
        clear HE
        generalize n / 10 = q at *
        generalize n % 10 = d at *
        have hc := conv_one w (48 + d) (by omega)
        rw [show ((48 + d : Nat) : Int) = 48 + (d : Int) by omega] at hc
        generalize UInt8.ofNat (48 + d) = c at *
        go_enter Try.func11, Try.ntmps11
        go_wp2_with (go_at_call 11; refine (ldigits_c m q _ hq hq2).mono ?_; rintro e w1 ⟨rfl, hb⟩; have hadd := str_add w1 (digG q) [c] (by simp only [List.length_cons, List.length_nil]; omega))
        go_ret
        exact ⟨rfl, ((Below.refl _ _).alloc (Nat.le_refl _) _).trans (hb.mono (by simp))⟩
end Go.Proofs.Ytpcgeaphfpcghaa
