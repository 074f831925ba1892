/- VecSums: for every slice of vectors the statement's function answers true and leaves its argument alone. No conditions. -/
import Derived.Test.YtnhegohhffecpaaVecSums0
namespace Go.Proofs.Ytnhegohhffecpaa
open Go.ChangeShapes Go.WideShapes Go.ChangeAt Go.RowKit

section
variable {H : Type} {enc : TypeId × Value → H} {P : Program}
/-- A slice of vectors that is handed in: empty, or its cells are integers. -/
theorem open_vecs {ts e tv : TypeId} {f0 f1 : Field} {W : World} {v : Value} {d : DataW H} {p : List MemPlace} (hs : P.underlying ts = some (.slice e)) (he : P.underlying e = some (.struct #[f0, f1]))
    (ce : P.cellsOf e = 2) (o0 : f0.offset = 0) (o1 : f1.offset = 1) (t0 : f0.type = tv) (t1 : f1.type = tv) (ct : P.cellsOf tv = 1) (hv : P.underlying tv = some (.int .i64))
    {r : Reach} {b0 : Nat} (ho : Value.okWide P W r b0 ts v) (h : DataW.Trod enc P W 0 (fun _ => true) true ts v d p) :
    (∃ a cap, v = .slice a 0 cap) ∨ ∃ (l : List (Int × Int)) (x : Int × Int) (b off cap : Nat), v = .slice (some ⟨b, off, none⟩) (l.length + 1) cap ∧ l.length + 1 ≤ cap ∧ cap ≤ 9223372036854775807 ∧ b < W.heap.size ∧ CellsV W b off (l ++ [x]) := by
  obtain ⟨a, len, cap, rfl⟩ := okWide_slice hs ho
  obtain ⟨fuel, hf⟩ := h
  rcases Deep.open_slice_pairs (cs := [.slice a len cap]) hs he ce o0 o1 (by rw [t0]; exact ct) (by rw [t1]; exact ct) hf with ⟨hcs, _⟩ | ⟨a', len', cap', m, n, V0, V1, D0, D1, P0, P1, hcs, _, hlc, hcm, hm, _, hx⟩
  · simp at hcs
    obtain ⟨rfl, rfl, rfl⟩ := hcs
    exact .inl ⟨_, _, rfl⟩
  · simp at hcs
    obtain ⟨rfl, rfl, rfl⟩ := hcs
    cases len with
    | zero => exact .inl ⟨_, _, rfl⟩
    | succ k =>
      right
      have hlen : k + 1 ≤ m := by rw [hm]; simpa using hlc
      rw [t0, t1] at hx
      have int0 : ∀ i, i < k + 1 → ∃ z : Int × Int, V0 i = .int .i64 z.1 ∧ V1 i = .int .i64 z.2 := fun i hi => by
        obtain ⟨_, _, h2, h3⟩ := hx i (by omega)
        obtain ⟨z0, e0, _, _⟩ := DataW.trod_int hv h2
        obtain ⟨z1, e1, _, _⟩ := DataW.trod_int hv h3
        simp at e0 e1
        exact ⟨(z0, z1), e0, e1⟩
      obtain ⟨F, hF⟩ := Deep.choose_lt int0
      -- the address is a plain one
      have hc00 := (hx 0 (by omega)).1
      obtain ⟨b, off, spot⟩ := a'
      have hsp : spot = none := by
        cases spot with
        | none => rfl
        | some s => simp [Addr.add, World.cell?] at hc00; split at hc00 <;> simp at hc00
      subst hsp
      have hb : b < W.heap.size := by
        apply Nat.lt_of_not_le
        intro hge
        simp [Addr.add, World.cell?, Array.getElem?_eq_none hge] at hc00
      refine ⟨(List.range k).map F, F k, b, off, cap, by simp, by simpa using hlc, by unfold maxLen at hcm; omega, hb, ?_⟩
      have hlist : (List.range k).map F ++ [F k] = (List.range (k + 1)).map F := by rw [List.range_succ, List.map_append]; rfl
      rw [hlist]
      intro i hi
      have hi' : i < k + 1 := by simpa using hi
      have hg : ((List.range (k + 1)).map F).getD i (0, 0) = F i := by simp [List.getD_eq_getElem?_getD, hi']
      obtain ⟨h1, h2, _, _⟩ := hx i (by omega)
      obtain ⟨g1, g2⟩ := hF i hi'
      rw [hg, ← g1, ← g2]
      refine ⟨?_, ?_⟩
      · rw [← h1]; congr 1; unfold Addr.add; split <;> simp_all
      · rw [← h2]; congr 1
end

set_option maxRecDepth 100000 in
theorem vecSums_lifted (os : Os) (started : os.Started) (H : Type) (enc : TypeId × Value → H) :
    ReturnsInHanded {} Try.checked os 4 .any (Rows.vecSumsSpec.pre6 enc Try.prog Try.f4 Rows.vecSumsRow.domain false) (Rows.vecSumsSpec.post enc Try.prog Try.f4 false true false false) := by
  refine returnsInHanded_of_change (C := Try.checked) own started (by kernel_rfl) Try.func4
    (ChangeSpec.witness6 (enc := enc) (C := Try.checked) false ⟨#[], #[.slice none 0 0], []⟩ 8 (by kernel_rfl) (by kernel_rfl) (by kernel_rfl) (by kernel_rfl)) ?_
  intro W base args ds gs before hval0 hW _ _
  have hval : ∀ (j : Nat) t v, Try.f4.params[j]? = some t → args[j]? = some v → Value.okWide Try.prog W .any base t v := hval0
  have hW' := hW
  obtain ⟨p, q, hA0, hV, rfl, hfz, hnd⟩ := hW
  have hA : DataW.TrodAll enc Try.prog W 0 (fun _ => true) true Try.f4.params.toList args.toList ds p := hA0
  rw [Try.params4] at hA hval
  obtain ⟨v0, vs0, d0, ds0, p0, q0, hargs, rfl, rfl, h0, r0⟩ := trodAll_cons hA
  obtain ⟨rfl, rfl, rfl⟩ := trodAll_nil r0
  obtain rfl : args = #[v0] := by cases args; simp_all
  have key : Calls Try.prog 4 #[v0] W fun e w' => e = .returned (.bool true) ∧ Below W.heap.size W w' := by
    rcases open_vecs (P := Try.prog) Try.underlying40 Try.underlying23 cellsV rfl rfl rfl rfl (by kernel_rfl) Try.underlying2 (hval 0 40 v0 rfl rfl) h0 with ⟨a, cap, rfl⟩ | ⟨l, x, b, off, cap, rfl, h1, h2, h3, h4⟩
    · exact sums_zero a cap W
    · exact sums_pos l x b off cap W h3 h1 h2 h4
  clear hA0 hval0
  refine key.mono fun e W' ⟨he, hb⟩ => ?_
  subst he
  exact ⟨_, rfl, law_post laidOut (readOk_spec (by kernel_rfl)) rfl Try.underlying4 rfl ⟨rfl, rfl, rfl⟩ hW' hb⟩

theorem vecSums_holds : Rows.VecSumsSaid :=
  OpenClaim.holds_of_wide 4 Try.f4 rfl rfl rfl rfl rfl rfl rfl ⟨rfl, rfl, rfl, rfl, rfl⟩ rfl rfl rfl rfl rfl (by kernel_rfl) Try.func4 (by kernel_rfl)
    (of_decide_eq_true (by kernel_rfl)) (by unfold Func.isWrapper; first | (rw [if_pos (by decide +kernel)]; kernel_rfl) | (rw [if_neg (by decide +kernel)]; exact ⟨rfl, rfl⟩))
    (fun os started H enc _ => vecSums_lifted os started H enc)

end Go.Proofs.Ytnhegohhffecpaa
