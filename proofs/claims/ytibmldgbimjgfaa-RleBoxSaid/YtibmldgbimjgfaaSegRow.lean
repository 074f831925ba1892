/- A slice of runs that is handed in: its cells are integers. No conditions. -/
import Derived.Test.YtibmldgbimjgfaaRow
import Derived.Test.YtibmldgbimjgfaaOf
namespace Go.Proofs.Ytibmldgbimjgfaa
open Go.ChangeShapes Go.WideShapes Go.ChangeAt Go.RowKit

/-- A number that an int64 holds. -/
def I64 (x : Int) : Prop := -9223372036854775808 ≤ x ∧ x ≤ 9223372036854775807
/-- A run whose numbers are int64s. -/
def S64 (s : Sg) : Prop := I64 s.1 ∧ I64 s.2.1 ∧ I64 s.2.2
section
variable {H : Type} {enc : TypeId × Value → H} {P : Program}
theorem wf64 {n : Int} (h : (Lit.int .i64 n).wf = true) : I64 n := by
  have : -9223372036854775808 ≤ n ∧ n ≤ 9223372036854775807 := by simpa [Lit.wf, IntKind.min, IntKind.max, IntKind.signed, IntKind.bits] using h
  exact this
theorem open_segs {ts e tv ti : TypeId} {f0 f1 g0 g1 : Field} {W : World} {v : Value} {d : DataW H} {p : List MemPlace} (hs : P.underlying ts = some (.slice e)) (he : P.underlying e = some (.struct #[f0, f1]))
    (ce : P.cellsOf e = 3) (o0 : f0.offset = 0) (o1 : f1.offset = 1) (t0 : f0.type = ti) (t1 : f1.type = tv) (ci : P.cellsOf ti = 1) (cv : P.cellsOf tv = 2) (hi : P.underlying ti = some (.int .i64))
    (hv : P.underlying tv = some (.struct #[g0, g1])) (p0 : g0.offset = 0) (p1 : g1.offset = 1) (u0 : g0.type = ti) (u1 : g1.type = ti)
    {r : Reach} {b0 : Nat} (ho : Value.okWide P W r b0 ts v) (h : DataW.Trod enc P W 0 (fun _ => true) true ts v d p) :
    ∃ (l : List Sg) (a : Option Addr) (cap : Nat), v = .slice a l.length cap ∧ l.length ≤ 9223372036854775807 ∧ ArgS W a l ∧ ∀ x ∈ l, S64 x := by
  obtain ⟨a, len, cap, rfl⟩ := okWide_slice hs ho
  obtain ⟨fuel, hf⟩ := h
  rcases Deep.open_slice (cs := [.slice a len cap]) hs hf with ⟨hcs, _⟩ | ⟨a', len', cap', m, n, D, Pl, hcs, _, hlc, hcm, hm, _, hx⟩
  · simp at hcs
    obtain ⟨rfl, rfl, rfl⟩ := hcs
    exact ⟨[], none, 0, rfl, by simp, fun h => by simp at h, fun x hx => by simp at hx⟩
  · simp at hcs
    obtain ⟨rfl, rfl, rfl⟩ := hcs
    have hlen : len ≤ m := by rw [hm]; simpa using hlc
    have each : ∀ i, i < len → ∃ s : Sg, (W.cell? (a'.add (i * 3)) = some (.int .i64 s.1) ∧ W.cell? ((a'.add (i * 3)).add 1) = some (.int .i64 s.2.1) ∧ W.cell? ((a'.add (i * 3)).add 2) = some (.int .i64 s.2.2)) ∧ S64 s := fun i hi' => by
      obtain ⟨cs', hc, ht⟩ := hx i (by omega)
      rw [ce] at hc
      obtain ⟨_, hcl, hat⟩ := World.cells?_some hc
      obtain ⟨ys, n', _, _, hl1, hyl, hfs⟩ := DataW.trod_struct he ht
      have h0 := hfs 0 f0 rfl
      have h1 := hfs 1 f1 rfl
      rw [o0, t0, ci] at h0
      rw [o1, t1, cv] at h1
      match cs', hcl with
      | [c0, c1, c2], _ =>
        match ys, hyl with
        | [y0, y1], _ =>
          simp at h0 h1
          obtain ⟨z0, e0, _, w0⟩ := DataW.trod_int hi h0
          obtain ⟨zs, n2, _, _, hl2, hzl, hgs⟩ := DataW.trod_struct hv h1
          have k0 := hgs 0 g0 rfl
          have k1 := hgs 1 g1 rfl
          rw [p0, u0, ci] at k0
          rw [p1, u1, ci] at k1
          match zs, hzl with
          | [q0, q1], _ =>
            simp at k0 k1
            obtain ⟨z1, e1, _, w1⟩ := DataW.trod_int hi k0
            obtain ⟨z2, e2, _, w2⟩ := DataW.trod_int hi k1
            simp at e0 e1 e2
            subst e0 e1 e2
            have a0 := hat 0 (by omega)
            have a1 := hat 1 (by omega)
            have a2 := hat 2 (by omega)
            simp at a1 a2
            refine ⟨(z0, z1, z2), ⟨?_, a1, a2⟩, wf64 w0, wf64 w1, wf64 w2⟩
            have ea : (a'.add (i * 3)).add 0 = a'.add (i * 3) := by simp [Addr.add]
            rw [ea] at a0
            simpa using a0
    obtain ⟨F, hF⟩ := Deep.choose_lt each
    refine ⟨(List.range len).map F, some a', cap, by simp, by simp; unfold maxLen at hcm; omega, fun hl => ?_, fun x hx => ?_⟩
    · simp at hl
      have hc00 := (hF 0 hl).1.1
      obtain ⟨b, off, spot⟩ := a'
      have hsp : spot = none := by
        cases spot with
        | none => rfl
        | some s => simp [Addr.add, World.cell?] at hc00; split at hc00 <;> simp at hc00
      subst hsp
      have hb : b < W.heap.size := by
        apply Nat.lt_of_not_le
        intro hge
        simp [Addr.add, World.cell?, Array.getElem?_eq_none hge] at hc00
      refine ⟨b, off, rfl, hb, fun i hi => ?_⟩
      have hi' : i < len := by simpa using hi
      have hg : ((List.range len).map F).getD i (0, 0, 0) = F i := by simp [List.getD_eq_getElem?_getD, hi']
      obtain ⟨⟨h1, h2, h3⟩, _⟩ := hF i hi'
      have ad : ∀ x y : Nat, (⟨b, x, none⟩ : Addr).add y = ⟨b, x + y, none⟩ := fun x y => by
        unfold Addr.add
        by_cases c : y = 0
        · subst c; simp
        · simp [c]
      rw [ad] at h1 h2 h3
      rw [ad] at h2 h3
      rw [hg]
      exact ⟨h1, h2, h3⟩
    · rw [List.mem_map] at hx
      obtain ⟨i, hi, rfl⟩ := hx
      exact (hF i (by simpa using hi)).2
end
theorem cellsSeg : Try.prog.cellsOf 30 = 3 := by kernel_rfl
theorem cellsI64 : Try.prog.cellsOf 2 = 1 := by kernel_rfl
/-- For this program. -/
theorem open_segsP {H : Type} {enc : TypeId × Value → H} {W : World} {v : Value} {d : DataW H} {p : List MemPlace} {r : Reach} {b0 : Nat} (ho : Value.okWide Try.prog W r b0 22 v) (h : DataW.Trod enc Try.prog W 0 (fun _ => true) true 22 v d p) :
    ∃ (l : List Sg) (a : Option Addr) (cap : Nat), v = .slice a l.length cap ∧ l.length ≤ 9223372036854775807 ∧ ArgS W a l ∧ ∀ x ∈ l, S64 x :=
  open_segs (P := Try.prog) Try.underlying22 Try.underlying30 cellsSeg rfl rfl rfl rfl cellsI64 cellsV Try.underlying2 Try.underlying28 rfl rfl rfl rfl ho h
end Go.Proofs.Ytibmldgbimjgfaa
