/- slices.Sorted(maps.Keys(m)) over users' rows: its bodies and their types are the shelf's. No conditions. Package plan: a copy of a plan. No conditions but the sizes. Package plan: what its exported functions say of a plan, by values. No conditions but the sizes. Package plan: the users of a plan, in order. No conditions but the sizes. Package plan: what is said of no plan: a nil pointer, a plan that was not made. No conditions. A region that draws its order, by an invariant of what has run: an operation may use up what another one made (an append its row). No conditions. A step of a region that draws its order, with the frame opaque: what each operand reads as is all that is known of it. No conditions. -/
import Derived.Shelf.SlIter.Nil
import Derived.Shelf.SortM.Plain
import Derived.Shelf.SortM.SortNone
import Derived.Test.YtpoejeambnbcaaaGreatPNGI
import Derived.Test.YtpoejeambnbcaaaGreatPNGD
namespace Go.Proofs.YtpoejeambnbcaaaGreat
open Go.ChangeShapes Go.WideShapes Go.ChangeAt Go.RowKit Go.Shelf
attribute [local irreducible] Go.Calls

def Tryz.itRen : Go.Shelf.Ren := ⟨fun | 6 => 74 | 7 => 75 | 8 => 110 | 9 => 111 | 10 => 112 | 11 => 141 | n => n, fun | 0 => 0 | 3 => 31 | 4 => 4 | 23 => 76 | 24 => 62 | 26 => 9 | 27 => 137 | 28 => 138 | 33 => 129 | n => n, fun n => n⟩
def Tryz.soRen : Go.Shelf.Ren := ⟨fun | 6 => 111 | 8 => 134 | 9 => 142 | 19 => 172 | 20 => 173 | 21 => 178 | 22 => 179 | 23 => 180 | 24 => 181 | 25 => 182 | 26 => 183 | 27 => 184 | 28 => 185 | 29 => 186 | 31 => 199 | 32 => 200 | 36 => 206 | 37 => 207 | 38 => 208 | 39 => 209 | 41 => 220 | n => n, fun | 0 => 0 | 3 => 3 | 4 => 4 | 5 => 5 | 9 => 9 | 26 => 62 | 27 => 62 | 29 => 9 | 32 => 208 | 35 => 232 | 36 => 233 | 41 => 237 | 44 => 44 | 46 => 241 | 53 => 266 | 57 => 270 | 63 => 285 | 64 => 286 | n => n, fun n => n⟩
set_option maxRecDepth 100000 in
theorem Tryz.keysLay : Go.Proofs.SlLaysZ.n7 Tryz.prog Tryz.itRen := {
  mixed := by kernel_rfl
  f7 := ⟨"maps.Keys[map[string][]livery/api.Rsv,string,[]livery/api.Rsv]", by decide, Tryz.func75.trans (congrArg some (by kernel_rfl))⟩
  f10 := ⟨"maps.Keys[map[string][]livery/api.Rsv,string,[]livery/api.Rsv]$1", by decide, Tryz.func112.trans (congrArg some (by kernel_rfl))⟩
  t0 := Tryz.underlying0
  a0 := Tryz.isAgg0
  z0 := Tryz.sizeOf0
  v0 := Tryz.zeroValue0
  t4 := Tryz.underlying4
  a4 := Tryz.isAgg4
  z4 := Tryz.sizeOf4
  v4 := Tryz.zeroValue4
  t23 := Tryz.underlying76
  a23 := Tryz.isAgg76
  z23 := Tryz.sizeOf76
  v23 := Tryz.zeroValue76
  t26 := Tryz.underlying9
  a26 := Tryz.isAgg9
  z26 := Tryz.sizeOf9
  v26 := Tryz.zeroValue9
  t27 := Tryz.underlying137
  a27 := Tryz.isAgg137
  z27 := Tryz.sizeOf137
  v27 := Tryz.zeroValue137
  t28 := Tryz.underlying138
  a28 := Tryz.isAgg138
  z28 := Tryz.sizeOf138
  v28 := Tryz.zeroValue138
  t33 := Tryz.underlying129
  a33 := Tryz.isAgg129
  z33 := Tryz.sizeOf129
  v33 := Tryz.zeroValue129
  }
set_option maxRecDepth 100000 in
theorem Tryz.sortedLay : Go.Proofs.SlLaysZ.n6 Tryz.prog Tryz.itRen := {
  mixed := by kernel_rfl
  f6 := ⟨"slices.Sorted[string]", by decide, Tryz.func74.trans (congrArg some (by kernel_rfl))⟩
  f8 := ⟨"slices.Collect[string]", by decide, Tryz.func110.trans (congrArg some (by kernel_rfl))⟩
  f11 := ⟨"slices.AppendSeq[[]string,string]", by decide, Tryz.func141.trans (congrArg some (by kernel_rfl))⟩
  t0 := Tryz.underlying0
  a0 := Tryz.isAgg0
  z0 := Tryz.sizeOf0
  v0 := Tryz.zeroValue0
  t24 := Tryz.underlying62
  a24 := Tryz.isAgg62
  z24 := Tryz.sizeOf62
  v24 := Tryz.zeroValue62
  t26 := Tryz.underlying9
  a26 := Tryz.isAgg9
  z26 := Tryz.sizeOf9
  v26 := Tryz.zeroValue9
  t28 := Tryz.underlying138
  a28 := Tryz.isAgg138
  z28 := Tryz.sizeOf138
  v28 := Tryz.zeroValue138
  i26 := by kernel_rfl
  }
set_option maxRecDepth 100000 in
theorem Tryz.strSort : Go.Proofs.SlLaysM.n6 Tryz.prog Tryz.soRen := {
  mixed := by kernel_rfl
  f6 := ⟨"slices.Sort[[]string,string]", by decide, Tryz.func111.trans (congrArg some (by kernel_rfl))⟩
  f8 := Tryz.func134.trans (congrArg some (by kernel_rfl))
  f9 := ⟨"slices.pdqsortOrdered[string]", by decide, Tryz.func142.trans (congrArg some (by kernel_rfl))⟩
  f19 := Tryz.func172.trans (congrArg some (by kernel_rfl))
  f20 := Tryz.func173.trans (congrArg some (by kernel_rfl))
  f21 := ⟨"slices.insertionSortOrdered[string]", by decide, Tryz.func178.trans (congrArg some (by kernel_rfl))⟩
  f22 := ⟨"slices.heapSortOrdered[string]", by decide, Tryz.func179.trans (congrArg some (by kernel_rfl))⟩
  f23 := ⟨"slices.breakPatternsOrdered[string]", by decide, Tryz.func180.trans (congrArg some (by kernel_rfl))⟩
  f24 := ⟨"slices.choosePivotOrdered[string]", by decide, Tryz.func181.trans (congrArg some (by kernel_rfl))⟩
  f25 := ⟨"slices.reverseRangeOrdered[string]", by decide, Tryz.func182.trans (congrArg some (by kernel_rfl))⟩
  f26 := ⟨"slices.partialInsertionSortOrdered[string]", by decide, Tryz.func183.trans (congrArg some (by kernel_rfl))⟩
  f27 := ⟨"cmp.Less[string]", by decide, Tryz.func184.trans (congrArg some (by kernel_rfl))⟩
  f28 := ⟨"slices.partitionEqualOrdered[string]", by decide, Tryz.func185.trans (congrArg some (by kernel_rfl))⟩
  f29 := ⟨"slices.partitionOrdered[string]", by decide, Tryz.func186.trans (congrArg some (by kernel_rfl))⟩
  f31 := Tryz.func199.trans (congrArg some (by kernel_rfl))
  f32 := Tryz.func200.trans (congrArg some (by kernel_rfl))
  f36 := ⟨"slices.siftDownOrdered[string]", by decide, Tryz.func206.trans (congrArg some (by kernel_rfl))⟩
  f37 := ⟨"slices.medianAdjacentOrdered[string]", by decide, Tryz.func207.trans (congrArg some (by kernel_rfl))⟩
  f38 := ⟨"slices.medianOrdered[string]", by decide, Tryz.func208.trans (congrArg some (by kernel_rfl))⟩
  f39 := ⟨"cmp.isNaN[string]", by decide, Tryz.func209.trans (congrArg some (by kernel_rfl))⟩
  f41 := ⟨"slices.order2Ordered[string]", by decide, Tryz.func220.trans (congrArg some (by kernel_rfl))⟩
  t0 := Tryz.underlying0
  a0 := Tryz.isAgg0
  z0 := Tryz.sizeOf0
  v0 := Tryz.zeroValue0
  t3 := Tryz.underlying3
  a3 := Tryz.isAgg3
  z3 := Tryz.sizeOf3
  v3 := Tryz.zeroValue3
  t4 := Tryz.underlying4
  a4 := Tryz.isAgg4
  z4 := Tryz.sizeOf4
  v4 := Tryz.zeroValue4
  t5 := Tryz.underlying5
  a5 := Tryz.isAgg5
  z5 := Tryz.sizeOf5
  v5 := Tryz.zeroValue5
  t9 := Tryz.underlying9
  a9 := Tryz.isAgg9
  z9 := Tryz.sizeOf9
  v9 := Tryz.zeroValue9
  t26 := Tryz.underlying62
  a26 := Tryz.isAgg62
  z26 := Tryz.sizeOf62
  v26 := Tryz.zeroValue62
  t27 := Tryz.underlying62
  a27 := Tryz.isAgg62
  z27 := Tryz.sizeOf62
  v27 := Tryz.zeroValue62
  t29 := Tryz.underlying9
  a29 := Tryz.isAgg9
  z29 := Tryz.sizeOf9
  v29 := Tryz.zeroValue9
  t32 := Tryz.underlying208
  a32 := Tryz.isAgg208
  z32 := Tryz.sizeOf208
  v32 := Tryz.zeroValue208
  t35 := Tryz.underlying232
  a35 := Tryz.isAgg232
  z35 := Tryz.sizeOf232
  v35 := Tryz.zeroValue232
  t36 := Tryz.underlying233
  a36 := Tryz.isAgg233
  z36 := Tryz.sizeOf233
  v36 := Tryz.zeroValue233
  t41 := Tryz.underlying237
  a41 := Tryz.isAgg237
  z41 := Tryz.sizeOf237
  v41 := Tryz.zeroValue237
  t44 := Tryz.underlying44
  a44 := Tryz.isAgg44
  z44 := Tryz.sizeOf44
  v44 := Tryz.zeroValue44
  t46 := Tryz.underlying241
  a46 := Tryz.isAgg241
  z46 := Tryz.sizeOf241
  v46 := Tryz.zeroValue241
  t53 := Tryz.underlying266
  a53 := Tryz.isAgg266
  z53 := Tryz.sizeOf266
  v53 := Tryz.zeroValue266
  t57 := Tryz.underlying270
  a57 := Tryz.isAgg270
  z57 := Tryz.sizeOf270
  v57 := Tryz.zeroValue270
  t63 := Tryz.underlying285
  a63 := Tryz.isAgg285
  z63 := Tryz.sizeOf285
  v63 := Tryz.zeroValue285
  t64 := Tryz.underlying286
  a64 := Tryz.isAgg286
  z64 := Tryz.sizeOf286
  v64 := Tryz.zeroValue286
  }
end Go.Proofs.YtpoejeambnbcaaaGreat

namespace Go.Proofs.YtpoejeambnbcaaaGreat
open Go.ChangeShapes Go.WideShapes Go.ChangeAt Go.RowKit
attribute [local irreducible] Go.Calls

end Go.Proofs.YtpoejeambnbcaaaGreat

namespace Go.Proofs.YtpoejeambnbcaaaGreat
open Go.ChangeShapes Go.WideShapes Go.ChangeAt Go.RowKit
attribute [local irreducible] Go.Calls

theorem body_nil {w : World} {m : Nat} (h : MapU w m []) : Body w m [] (fun _ => []) (fun _ => []) [] :=
  ⟨h, fun p hp => by simp at hp, fun _ _ => rfl, fun p hp => by simp at hp, fun _ => rwsF_nil w, fun s r hr => by simp at hr, List.Perm.refl _, good_nil, fun r hr => by simp at hr⟩
/-- What New says. -/
def NewP (w : World) (F : List Sg) (e : Ending) (w' : World) : Prop := Below w.heap.size w w' ∧
  ((posB F = false ∧ e = .returned (.tuple #[.pointer none, .int .i64 5])) ∨ (posB F = true ∧ ∃ p, e = .returned (.tuple #[.pointer (some ⟨p, 0, none⟩), .int .i64 0]) ∧ Pl w' p [] F ∧ w.heap.size ≤ p))
theorem new_f {va : Value} {F : List Sg} (w : World) (hF : SliF3 w va F) (hl : F.length ≤ 1000000000) : Calls Tryz.prog 15 #[va] w (NewP w F) := by
  refine (new_c w hF hl).mono ?_
  rintro e w' ⟨hb, ⟨h1, rfl⟩ | ⟨h1, p, m, v, rfl, hB, hC, hM, hp, _⟩⟩
  · exact ⟨hb, .inl ⟨h1, rfl⟩⟩
  · exact ⟨hb, .inr ⟨h1, p, rfl, ⟨m, v, _, _, _, hB, hC, body_nil hM⟩, hp⟩⟩
theorem load_f {p : Nat} {L : List Rv} {C : List Sg} (w : World) (hP : Pl w p L C) : Calls Tryz.prog 28 #[.pointer (some ⟨p, 0, none⟩)] w (LoadIs w (fnsS L)) := by
  obtain ⟨m, vc, U, rows, rvs, hB, hC, hBd⟩ := hP.has
  have hin : InR (allFs (fun s => fnsS (rvs s)) U) := by rw [fns_all]; exact hBd.inR
  refine (planLoad_c w hB hBd.planC hin (by rw [hBd.all_len]; have := hBd.good.few; omega) (by have := hBd.lenAll; omega)).mono ?_
  rintro e w' ⟨v, rfl, h1, h2⟩
  rw [fns_all] at h1
  exact ⟨v, rfl, ldR_perm (L := fnsS (allRv rvs U)) (M := fnsS L) (List.Perm.map Rv.A hBd.perm) h1, h2⟩
/-- What a user has. -/
def ofU (L : List Rv) (s : List UInt8) : List Rv := L.filter fun r => decide (r.u = s)
theorem Body.ofUser {w : World} {m : Nat} {U : List Ent} {rows : List UInt8 → List Rw} {rvs : List UInt8 → List Rv} {L : List Rv} (h : Body w m U rows rvs L) (s : List UInt8) : (rvs s).Perm (ofU L s) := by
  have hp := (h.rest s).filter (fun r => decide (r.u = s))
  rw [List.filter_append] at hp
  have e1 : (rvs s).filter (fun r => decide (r.u = s)) = rvs s := by
    rw [List.filter_eq_self]
    intro r hr
    simpa using h.user s r hr
  have e2 : (restOf rvs U s).filter (fun r => decide (r.u = s)) = [] := by
    rw [List.filter_eq_nil_iff]
    intro r hr
    obtain ⟨t, ht, hrt⟩ := rest_mem hr
    have := h.user t r hrt
    simp only [decide_eq_true_eq]
    rw [this]; exact ht
  rw [e1, e2, List.append_nil] at hp
  exact hp
theorem user_f {p : Nat} {L : List Rv} {C : List Sg} (s : List UInt8) (w : World) (hP : Pl w p L C) (hs : s.length ≤ maxLen) : Calls Tryz.prog 32 #[.pointer (some ⟨p, 0, none⟩), nmV s] w (LoadIs w (fnsS (ofU L s))) := by
  obtain ⟨m, vc, U, rows, rvs, hB, hC, hBd⟩ := hP.has
  refine (user_c s w hB hBd.planC hs).mono ?_
  rintro e w' ⟨v, rfl, h1, h2⟩
  exact ⟨v, rfl, ldR_perm (L := fnsS (rvs s)) (M := fnsS (ofU L s)) (List.Perm.map Rv.A (hBd.ofUser s)) h1, h2⟩
/-- What a load is, where the sum is known. -/
theorem ldR_is {M : List (List Sg)} {v : Value} {w : World} {A : List Sg} (h : ldR M v w) (hp : ∀ F ∈ M, posB F = true) (hs : sumS M = (A, 0)) : SliS w v A := by
  obtain ⟨A', h1, h2⟩ := h
  rcases sumS_pos hp with ⟨_, _, h3⟩ | ⟨_, h3⟩
  · rw [hs] at h3
    have := loads_unique h2 h3 (fun t => ⟨rfl, rfl⟩)
    subst this; exact h1
  · rw [hs] at h3; simp at h3
end Go.Proofs.YtpoejeambnbcaaaGreat

namespace Go.Proofs.YtpoejeambnbcaaaGreat
open Go.ChangeShapes Go.WideShapes Go.ChangeAt Go.RowKit Go.Sort Go.Shelf Go.Maps
attribute [local irreducible] Go.Calls

/-- Users, in order, each once. -/
def insU (out : List (List UInt8)) (s : List UInt8) : List (List UInt8) := if s ∈ out then out else out.takeWhile (fun x => decide (x < s)) ++ s :: out.dropWhile (fun x => decide (x < s))
def usersS (L : List Rv) : List (List UInt8) := L.foldl (fun out r => insU out r.u) []
theorem insU_mem (out : List (List UInt8)) (s x : List UInt8) : x ∈ insU out s ↔ x = s ∨ x ∈ out := by
  unfold insU
  split
  · rename_i h
    constructor
    · exact .inr
    · rintro (rfl | h')
      · exact h
      · exact h'
  · have hp : (out.takeWhile (fun x => decide (x < s)) ++ s :: out.dropWhile (fun x => decide (x < s))).Perm (s :: out) := by
      refine (List.perm_middle).trans ?_
      rw [List.takeWhile_append_dropWhile]
    rw [hp.mem_iff, List.mem_cons]
theorem insU_ord : ∀ (out : List (List UInt8)) (s : List UInt8), out.Pairwise (· < ·) → (insU out s).Pairwise (· < ·)
  | [], s, _ => by simp [insU]
  | x :: out, s, h => by
    obtain ⟨h1, h2⟩ := List.pairwise_cons.1 h
    have ih := insU_ord out s h2
    unfold insU at ih ⊢
    by_cases c : s ∈ x :: out
    · rw [if_pos c]; exact h
    · rw [if_neg c]
      have hne : s ≠ x := fun e => c (by rw [e]; exact List.mem_cons_self ..)
      have hno : s ∉ out := fun e => c (List.mem_cons_of_mem _ e)
      rw [if_neg hno] at ih
      by_cases d : x < s
      · rw [List.takeWhile_cons_of_pos (p := fun x => decide (x < s)) (by simpa using d), List.dropWhile_cons_of_pos (p := fun x => decide (x < s)) (by simpa using d)]
        show (x :: (out.takeWhile (fun x => decide (x < s)) ++ s :: out.dropWhile (fun x => decide (x < s)))).Pairwise (· < ·)
        refine List.pairwise_cons.2 ⟨fun y hy => ?_, ih⟩
        have hp : (out.takeWhile (fun x => decide (x < s)) ++ s :: out.dropWhile (fun x => decide (x < s))).Perm (s :: out) := by
          refine (List.perm_middle).trans ?_
          rw [List.takeWhile_append_dropWhile]
        rcases List.mem_cons.1 (hp.mem_iff.1 hy) with rfl | hy
        · exact d
        · exact h1 y hy
      · rw [List.takeWhile_cons_of_neg (p := fun x => decide (x < s)) (by simpa using d), List.dropWhile_cons_of_neg (p := fun x => decide (x < s)) (by simpa using d)]
        have hsx : s < x := by
          have h' : s ≤ x := List.not_lt.1 d
          by_cases h2 : s < x
          · exact h2
          · exact absurd (List.le_antisymm h' (List.not_lt.1 h2)) hne
        show (s :: x :: out).Pairwise (· < ·)
        refine List.pairwise_cons.2 ⟨fun y hy => ?_, h⟩
        rcases List.mem_cons.1 hy with rfl | hy
        · exact hsx
        · exact List.lt_trans hsx (h1 y hy)
theorem usersS_aux : ∀ (L : List Rv) (out : List (List UInt8)), out.Pairwise (· < ·) → (L.foldl (fun out r => insU out r.u) out).Pairwise (· < ·) ∧ ∀ x, x ∈ L.foldl (fun out r => insU out r.u) out ↔ x ∈ out ∨ ∃ r ∈ L, r.u = x
  | [], out, h => ⟨h, fun x => by simp⟩
  | r :: L, out, h => by
    obtain ⟨h1, h2⟩ := usersS_aux L (insU out r.u) (insU_ord out r.u h)
    refine ⟨h1, fun x => ?_⟩
    rw [List.foldl_cons, h2 x, insU_mem]
    constructor
    · rintro ((rfl | h) | ⟨s, hs, rfl⟩)
      · exact .inr ⟨r, List.mem_cons_self .., rfl⟩
      · exact .inl h
      · exact .inr ⟨s, List.mem_cons_of_mem _ hs, rfl⟩
    · rintro (h | ⟨s, hs, rfl⟩)
      · exact .inl (.inr h)
      · rcases List.mem_cons.1 hs with rfl | hs
        · exact .inl (.inl rfl)
        · exact .inr ⟨s, hs, rfl⟩
theorem usersS_ord (L : List Rv) : (usersS L).Pairwise (· < ·) := (usersS_aux L [] List.Pairwise.nil).1
theorem usersS_mem (L : List Rv) (x : List UInt8) : x ∈ usersS L ↔ ∃ r ∈ L, r.u = x := by
  unfold usersS
  rw [(usersS_aux L [] List.Pairwise.nil).2 x]
  simp
theorem lt_nodup {l : List (List UInt8)} (h : l.Pairwise (· < ·)) : l.Nodup := h.imp (fun h e => by subst e; exact List.lt_irrefl _ h)
theorem sorted_users {L : List Rv} {ss : List (List UInt8)} (hn : ss.Nodup) (hm : ∀ x, x ∈ ss ↔ ∃ r ∈ L, r.u = x) : ss.mergeSort (fun x y => decide (x ≤ y)) = usersS L := by
  have tr : ∀ a b c : List UInt8, decide (a ≤ b) = true → decide (b ≤ c) = true → decide (a ≤ c) = true := fun a b c h1 h2 => by simp only [decide_eq_true_eq] at *; exact List.le_trans h1 h2
  have tot : ∀ a b : List UInt8, (decide (a ≤ b) || decide (b ≤ a)) = true := fun a b => by simp only [Bool.or_eq_true, decide_eq_true_eq]; exact List.le_total a b
  have hp : ss.Perm (usersS L) := (List.perm_ext_iff_of_nodup hn (lt_nodup (usersS_ord L))).2 fun x => by rw [hm x, usersS_mem]
  refine List.Perm.eq_of_pairwise (le := fun a b => decide (a ≤ b) = true) (fun a b _ _ h1 h2 => ?_) (List.pairwise_mergeSort tr tot ss) ((usersS_ord L).imp fun h => ?_) ((List.mergeSort_perm ss _).trans hp)
  · simp only [decide_eq_true_eq] at h1 h2
    exact List.le_antisymm h1 h2
  · simp only [decide_eq_true_eq]
    exact List.le_of_lt h
/-- A map of users' rows, as the shelf wants it. -/
def anyR : Value → Option (DataW Unit × List MemPlace) := fun _ => some (.lit (.bool true), [])
theorem own_map {P : Program} {k : TypeId} {w : World} {m : Nat} {U : List Ent} (h : MapU w m U) (hl : U.length ≤ 1000000) (hk : P.underlying k = some .string) :
    ∃ D : DataW Unit, w.ownsMap P k anyR m U.length D ∧ (strKeys D).Perm (U.map (·.1)) ∧ Maps.size D ≤ 1000000 := by
  obtain ⟨es, clock, hb, he, hn, hst, hcl, hs⟩ := h
  have hsz : es.size = U.length := by
    have := congrArg List.length he
    simpa using this
  have hkey : ∀ e ∈ es.toList, ∃ p ∈ U, e.key = kyV p.1 := fun e hx => by
    obtain ⟨p, hp, h1, _⟩ := ent_mem he hx
    exact ⟨p, hp, h1⟩
  have hko : ∀ e ∈ es.toList, ∃ p ∈ U, e.key = kyV p.1 ∧ keyOf P k e.key = some (.string p.1) := fun e hx => by
    obtain ⟨p, hp, h1⟩ := hkey e hx
    refine ⟨p, hp, h1, ?_⟩
    rw [h1]
    have := WideMaps.keyOf_string_mk hk (s := ⟨p.1.toArray⟩) (by simpa [ByteArray.size] using hs p hp)
    simpa using this
  have hrd : ∀ e ∈ es.toList, ∃ p ∈ U, e.key = kyV p.1 ∧ Go.WideElems.rd P k anyR e = some (.string p.1, .lit (.bool true)) := fun e hx => by
    obtain ⟨p, hp, h1, h2⟩ := hko e hx
    exact ⟨p, hp, h1, by unfold Go.WideElems.rd anyR; rw [h2]; rfl⟩
  have hkn : (es.toList.map (·.key)).Nodup := by
    have e1 : es.toList.map (·.key) = (U.map (·.1)).map kyV := by
      have := congrArg (List.map Prod.fst) he
      simpa [List.map_map, Function.comp_def] using this
    rw [e1]
    exact (List.pairwise_map.2 (hn.imp fun h e => h (kyV_inj e)))
  let g : Value → List UInt8 := fun v => match v with
    | .string s => s.data.toList
    | _ => []
  refine ⟨.map ((es.toList.map (Go.WideElems.rg P k anyR)).foldr DataW.insert []), ⟨es, clock, hb, ⟨by rw [hsz]; unfold maxLen; omega, ⟨hcl, hst, hkn⟩, fun e hx => ?_⟩, Nat.le_of_eq hsz, rfl⟩, ?_, ?_⟩
  · obtain ⟨p, _, _, h⟩ := hrd e hx
    exact ⟨_, h⟩
  · show (((es.toList.map (Go.WideElems.rg P k anyR)).foldr DataW.insert []).map fun p => strOf p.1).Perm _
    refine ((sorted_perm _).map _).trans ?_
    rw [List.map_map]
    have e2 : es.toList.map ((fun p : Lit × DataW Unit => strOf p.1) ∘ Go.WideElems.rg P k anyR) = es.toList.map (fun e => g e.key) := by
      apply List.map_congr_left
      intro e hx
      obtain ⟨p, _, h1, h2⟩ := hrd e hx
      refine (congrArg (fun q : Lit × DataW Unit => strOf q.1) (Go.WideElems.rg_of h2)).trans ?_
      rw [h1]
      simp [strOf, g]
    rw [e2]
    have e3 := congrArg (List.map fun q : Value × Value => g q.1) he
    rw [List.map_map, List.map_map] at e3
    have e4 : es.toList.map (fun e => g e.key) = U.map (·.1) := by
      refine Eq.trans e3 ?_
      apply List.map_congr_left
      intro p _
      simp [g]
    rw [e4]
  · show ((es.toList.map (Go.WideElems.rg P k anyR)).foldr DataW.insert []).length ≤ _
    rw [(sorted_perm _).length_eq, List.length_map]
    simp only [Array.length_toList]
    omega
theorem Tryz.sorts (m : Nat) : AnyZ.SortsIn Tryz.prog Tryz.itRen Fence.wide m :=
  ⟨fun blk off cap ss W hH hblk hsz => callsIn_wide.2 (AnyM.slices_Sort_string Tryz.strSort blk off cap ss W hH hblk hsz),
   fun p cap W => callsIn_wide.2 (AnyM.slices_Sort_string_none Tryz.strSort p cap W)⟩
theorem keys_c (mb : Option Nat) (W : World) : Calls Tryz.prog 75 #[.map mb] W fun e w' => e = .returned (.func (.func 112) #[] #[.pointer (some ⟨W.heap.size, 0, none⟩)]) ∧ w' = W.alloc (.cells #[.map mb] 76) :=
  callsIn_wide.1 (AnyZ.keys_in Tryz.keysLay Fence.wide 5 trivial rfl mb W)
set_option maxHeartbeats 1000000 in
theorem uskeys_c {b : Nat} {U : List Ent} (w : World) (h : MapU w b U) (hl : U.length ≤ 1000000) :
    Calls Tryz.prog 74 #[.func (.func 112) #[] #[.pointer (some ⟨w.heap.size, 0, none⟩)]] (w.alloc (.cells #[.map (some b)] 76)) fun e w' => ∃ (v : Value) (ss : List (List UInt8)), e = .returned v ∧ ss.Perm (U.map (·.1)) ∧
      w'.ownsRow (w.alloc (.cells #[.map (some b)] 76)).heap.size 9 1 v ss.length ((ss.mergeSort (fun x y => decide (x ≤ y))).map encStr) ∧ Below (w.alloc (.cells #[.map (some b)] 76)).heap.size (w.alloc (.cells #[.map (some b)] 76)) w' := by
  obtain ⟨D0, hown, hD, hsz⟩ := own_map h hl Tryz.underlying9
  have hbl := hown.lt
  have hseq : SeqGives Fence.wide 2 Tryz.prog 112 #[.pointer (some ⟨w.heap.size, 0, none⟩)] encStr (fun ss => ss.Perm (strKeys D0)) (Maps.size D0) (w.alloc (.cells #[.map (some b)] 76)) :=
    AnyZ.keys_gives (ρ := Tryz.itRen) { Tryz.keysLay with } Fence.wide _ trivial rfl (by omega) w.heap.size b U.length D0 _ (by simp) (by simp) (by
      obtain ⟨es, clock, hb, Ft, hs, hD⟩ := hown
      exact ⟨es, clock, (Below.heap_alloc _ _ b hbl).trans hb, Ft, hs, hD⟩)
  have := AnyZ.sorted_in Tryz.sortedLay Fence.wide 5 trivial trivial trivial trivial rfl (by omega) (Tryz.sorts _) (enters_of Tryz.func111 (by kernel_rfl) rfl) 112 #[.pointer (some ⟨w.heap.size, 0, none⟩)] trivial (enters_of Tryz.func112 (by kernel_rfl) rfl) _ _ (by unfold maxLen; omega) (by omega) _ hseq
  refine (callsIn_wide.1 this).mono ?_
  rintro e w' ⟨v, ss, rfl, hS, hrow, _, hb⟩
  exact ⟨v, ss, rfl, hS.trans hD, hrow, hb⟩
/-- What Users says. -/
def UsrP (w : World) (L : List Rv) (e : Ending) (w' : World) : Prop := ∃ v, e = .returned v ∧ w'.ownsRow w.heap.size 9 1 v (usersS L).length ((usersS L).map encStr) ∧ Below w.heap.size w w'
theorem users_f {p : Nat} {L : List Rv} {C : List Sg} (w : World) (hP : Pl w p L C) : Calls Tryz.prog 29 #[.pointer (some ⟨p, 0, none⟩)] w (UsrP w L) := by
  obtain ⟨m, vc, U, rows, rvs, hB, hC, hBd⟩ := hP.has
  have hUl : U.length ≤ 1000000 := by
    have h1 : U.length ≤ (allRv rvs U).length := by
      have : ∀ V : List Ent, (∀ p ∈ V, rvs p.1 ≠ []) → V.length ≤ (allRv rvs V).length := by
        intro V
        induction V with
        | nil => intro _; simp
        | cons q V ih =>
          intro h
          have h2 := ih fun p hp => h p (List.mem_cons_of_mem _ hp)
          have h3 : 0 < (rvs q.1).length := List.length_pos_iff.2 (h q (List.mem_cons_self ..))
          unfold allRv at h2 ⊢
          rw [List.flatMap_cons, List.length_append, List.length_cons]
          omega
      exact this U hBd.full
    rw [hBd.perm.length_eq] at h1
    have := hBd.good.few
    omega
  have hus : ∀ ss : List (List UInt8), ss.Perm (U.map (·.1)) → ss.length = (usersS L).length ∧ ss.mergeSort (fun x y => decide (x ≤ y)) = usersS L := fun ss hss => by
    have e := sorted_users (L := L) ((hss.nodup_iff).2 hBd.map.nodup) fun x => by
      rw [hss.mem_iff]
      constructor
      · intro hx
        obtain ⟨q, hq, rfl⟩ := List.mem_map.1 hx
        obtain ⟨r, hr⟩ := List.exists_mem_of_ne_nil _ (hBd.full q hq)
        exact ⟨r, hBd.mem hr, hBd.user q.1 r hr⟩
      · rintro ⟨r, hr, rfl⟩
        obtain ⟨q, hq, hr2⟩ := allRv_mem.1 (hBd.perm.mem_iff.2 hr)
        rw [hBd.user q.1 r hr2]
        exact List.mem_map.2 ⟨q, hq, rfl⟩
    exact ⟨by rw [← e, List.length_mergeSort], e⟩
  have HMD := hidE (made_c w hB)
  have HB := hidE hB; have HM := hidE hBd.map; have HUL := hidE hUl; have HUS := hidE hus
  obtain ⟨ac, cc, rfl, _⟩ := hC.1
  clear hP hB hC hBd hUl hus
  go_enter Tryz.func29, Tryz.ntmps29
  go_wp2_with fail
  ((with_reducible refine (HMD.out).mono ?_); rintro e w1 ⟨rfl, hb1⟩)
  have hB1 := HB.out.past hb1
  have q0 := hB1.cell 0; have q1 := hB1.cell 1; have qz := hB1.lt
  simp at q0 q1
  have HB1 := hidE hb1; have HSO := hidE (uskeys_c w1 (HM.out.past hb1) HUL.out)
  clear hB1 hb1 HMD
  go_wp2_with fail
  ((with_reducible refine (keys_c _ _).mono ?_); rintro e w2 ⟨rfl, rfl⟩)
  go_wp2_with fail
  ((with_reducible refine (HSO.out).mono ?_); rintro e w3 ⟨v, ss, rfl, hp, ho, hb3⟩)
  obtain ⟨av, cv, rfl⟩ := own_sli ho
  have HP := hidE hp; have HO := hidE ho; have HB3 := hidE hb3
  clear hp ho hb3 HSO
  go_wp2
  go_ret
  obtain ⟨h1, h2⟩ := HUS.out ss HP.out
  have ho := HO.out
  rw [h2, h1] at ho
  have hbn : Below w1.heap.size w1 (w1.alloc (.cells #[.map (some m)] 76)) := (Below.refl _ _).alloc (Nat.le_refl _) _
  have hb13 := hbn.trans (HB3.out.mono hbn.size)
  rw [h1]
  exact ⟨_, rfl, own_base ho (by have := HB1.out.size; have h9 := hbn.size; omega), HB1.out.trans (hb13.mono HB1.out.size)⟩
end Go.Proofs.YtpoejeambnbcaaaGreat

namespace Go.Proofs.YtpoejeambnbcaaaGreat
open Go.ChangeShapes Go.WideShapes Go.ChangeAt Go.RowKit
attribute [local irreducible] Go.Calls

/-- No plan. -/
def NoPl (w : World) (v : Value) : Prop := v = .pointer none ∨ ∃ p, v = .pointer (some ⟨p, 0, none⟩) ∧ Blk w p #[.slice none 0 0, .map none] 80
theorem NoPl.past {w w' : World} {v : Value} (h : NoPl w v) (hb : Below w.heap.size w w') : NoPl w' v := by
  rcases h with rfl | ⟨p, rfl, hB⟩
  · exact .inl rfl
  · exact .inr ⟨p, rfl, hB.past hb⟩
theorem made_no {v : Value} (w : World) (h : NoPl w v) : Calls Tryz.prog 57 #[v] w fun e w' => e = .returned (.bool false) ∧ Below w.heap.size w w' := by
  rcases h with rfl | ⟨p, rfl, hB⟩
  · go_enter Tryz.func57, Tryz.ntmps57
    go_wp2
    go_ret
    exact ⟨rfl, by (repeat (first | exact Below.refl _ _ | assumption | refine balloc ?_ _ | refine below_drewN ?_ _ | refine bstep (by assumption) ?_ | refine bstep (Past.prop _) ?_ | refine Below.setCell ?_ (by first | exact Nat.le_refl _ | (simp; done) | (simp; omega)) _))⟩
  · have b1 := hB.cell 1; have bz := hB.lt
    simp at b1
    clear hB
    have hne : ∀ w, (binOp BinOp.neq 76 (.map none) (.map none)).run Tryz.prog w = .ok (.bool false) w := fun w => by kernel_rfl
    go_enter Tryz.func57, Tryz.ntmps57
    go_wp2
    go_ret
    exact ⟨rfl, by (repeat (first | exact Below.refl _ _ | assumption | refine balloc ?_ _ | refine below_drewN ?_ _ | refine bstep (by assumption) ?_ | refine bstep (Past.prop _) ?_ | refine Below.setCell ?_ (by first | exact Nat.le_refl _ | (simp; done) | (simp; omega)) _))⟩
theorem do_no {v u : Value} (w : World) (h : NoPl w v) : Calls Tryz.prog 18 #[v, u] w fun e w' => e = .returned (.int .i64 1) ∧ Below w.heap.size w w' := by
  have HM := hidE (made_no w h)
  go_enter Tryz.func18, Tryz.ntmps18
  go_wp2_with fail
  ((with_reducible refine (HM.out).mono ?_); rintro e w1 ⟨rfl, hb1⟩)
  have HB := hidE hb1
  clear hb1
  go_wp2
  go_ret
  exact ⟨rfl, HB.out⟩
theorem setcap_nil {v u : Value} (w : World) (h : NoPl w v) : Calls Tryz.prog 19 #[v, u] w fun e w' => e = .returned (.int .i64 1) ∧ Below w.heap.size w w' := by
  have HM := hidE (made_no w h)
  go_enter Tryz.func19, Tryz.ntmps19
  go_wp2_with fail
  ((with_reducible refine (HM.out).mono ?_); rintro e w1 ⟨rfl, hb1⟩)
  have HB := hidE hb1
  clear hb1
  go_wp2
  go_ret
  exact ⟨rfl, HB.out⟩
theorem list_no {v : Value} (w : World) (h : NoPl w v) : Calls Tryz.prog 27 #[v] w fun e w' => e = .returned (.slice none 0 0) ∧ Below w.heap.size w w' := by
  have HM := hidE (made_no w h)
  go_enter Tryz.func27, Tryz.ntmps27
  go_wp2_with fail
  ((with_reducible refine (HM.out).mono ?_); rintro e w1 ⟨rfl, hb1⟩)
  have HB := hidE hb1
  clear hb1
  go_wp2
  go_ret
  exact ⟨rfl, HB.out⟩
theorem load_no {v : Value} (w : World) (h : NoPl w v) : Calls Tryz.prog 28 #[v] w fun e w' => e = .returned (.slice none 0 0) ∧ Below w.heap.size w w' := by
  have HM := hidE (made_no w h)
  go_enter Tryz.func28, Tryz.ntmps28
  go_wp2_with fail
  ((with_reducible refine (HM.out).mono ?_); rintro e w1 ⟨rfl, hb1⟩)
  have HB := hidE hb1
  clear hb1
  go_wp2
  go_ret
  exact ⟨rfl, HB.out⟩
theorem cap_no {v : Value} (w : World) (h : NoPl w v) : Calls Tryz.prog 36 #[v] w fun e w' => e = .returned (.slice none 0 0) ∧ Below w.heap.size w w' := by
  have HM := hidE (made_no w h)
  go_enter Tryz.func36, Tryz.ntmps36
  go_wp2_with fail
  ((with_reducible refine (HM.out).mono ?_); rintro e w1 ⟨rfl, hb1⟩)
  have HB := hidE hb1
  clear hb1
  go_wp2
  go_ret
  exact ⟨rfl, HB.out⟩
theorem users_no {v : Value} (w : World) (h : NoPl w v) : Calls Tryz.prog 29 #[v] w fun e w' => e = .returned (.slice none 0 0) ∧ Below w.heap.size w w' := by
  have HM := hidE (made_no w h)
  go_enter Tryz.func29, Tryz.ntmps29
  go_wp2_with fail
  ((with_reducible refine (HM.out).mono ?_); rintro e w1 ⟨rfl, hb1⟩)
  have HB := hidE hb1
  clear hb1
  go_wp2
  go_ret
  exact ⟨rfl, HB.out⟩
theorem user_no {v u : Value} (w : World) (h : NoPl w v) : Calls Tryz.prog 32 #[v, u] w fun e w' => e = .returned (.slice none 0 0) ∧ Below w.heap.size w w' := by
  have HM := hidE (made_no w h)
  go_enter Tryz.func32, Tryz.ntmps32
  go_wp2_with fail
  ((with_reducible refine (HM.out).mono ?_); rintro e w1 ⟨rfl, hb1⟩)
  have HB := hidE hb1
  clear hb1
  go_wp2
  go_ret
  exact ⟨rfl, HB.out⟩
theorem copy_no {v : Value} (w : World) (h : NoPl w v) : Calls Tryz.prog 23 #[v] w fun e w' => e = .returned (.pointer none) ∧ Below w.heap.size w w' := by
  have HM := hidE (made_no w h)
  go_enter Tryz.func23, Tryz.ntmps23
  go_wp2_with fail
  ((with_reducible refine (HM.out).mono ?_); rintro e w1 ⟨rfl, hb1⟩)
  have HB := hidE hb1
  clear hb1
  go_wp2
  go_ret
  exact ⟨rfl, HB.out⟩
set_option maxRecDepth 100000 in
set_option maxHeartbeats 4000000 in
theorem get_no {v : Value} (id : Int) (w : World) (h : NoPl w v) : Calls Tryz.prog 24 #[v, .int .u32 id] w fun e w' => e = .returned (.tuple #[rvZ, .int .i64 1]) ∧ Below w.heap.size w w' := by
  obtain ⟨w0, hw0⟩ : ∃ w0, w0 = w.alloc (Obj.cells #[.int .u32 0, .int .u32 0, .string ⟨#[]⟩, .int .i64 0, .int .i64 0, .slice none 0 0, .slice none 0 0, .slice none 0 0] 50) := ⟨_, rfl⟩
  have B0 : Blk w0 w.heap.size #[.int .u32 0, .int .u32 0, .string ⟨#[]⟩, .int .i64 0, .int .i64 0, .slice none 0 0, .slice none 0 0, .slice none 0 0] 50 := by rw [hw0]; exact Blk.made _ _ _
  have hb0 : Below w.heap.size w w0 := by rw [hw0]; (repeat (first | exact Below.refl _ _ | assumption | refine balloc ?_ _ | refine below_drewN ?_ _ | refine bstep (by assumption) ?_ | refine bstep (Past.prop _) ?_ | refine Below.setCell ?_ (by first | exact Nat.le_refl _ | (simp; done) | (simp; omega)) _))
  have HM := hidE (made_no w0 (h.past hb0))
  have HB0 := hidE B0; have HBL := hidE hb0
  clear B0 hb0
  go_enter Tryz.func24, Tryz.ntmps24
  go_upto_region 1 with fail
  rw [← hw0]
  clear hw0
  go_wp2_with fail
  ((with_reducible refine (HM.out).mono ?_); rintro e w1 ⟨rfl, hb1⟩)
  have hB1 := HB0.out.past hb1
  have HB1 := hidE (HBL.out.trans (hb1.mono HBL.out.size))
  clear hb1 HB0 HBL HM
  have r0 := hB1.cell 0; have r1 := hB1.cell 1; have r2 := hB1.cell 2; have r3 := hB1.cell 3; have r4 := hB1.cell 4; have r5 := hB1.cell 5; have r6 := hB1.cell 6; have r7 := hB1.cell 7; have rf := hB1.free; have rz := hB1.lt
  simp at r0 r1 r2 r3 r4 r5 r6 r7
  clear hB1
  go_wp2
  refine bodyPost_ret (v := .tuple #[rvZ, .int .i64 1]) (by simp [results, Tryz.results24, go_sem, r0, r1, r2, r3, r4, r5, r6, r7]) rfl ⟨rfl, ?_⟩
  exact below_eight HB1.out (Nat.le_refl _) _ _ _ _ _ _ _ _
end Go.Proofs.YtpoejeambnbcaaaGreat

namespace Go.Proofs.YtpoejeambnbcaaaGreat
open Go.RowKit

section
variable {P : Program} {l : List Oper} {n : Nat} {a0 : Act} {w0 : World}
/-- The one operation among those that writes a slot. -/
def dstOnly (l : List Oper) (t j : Nat) : Bool := (match l[j]? with
    | some o => o.dst == some t
    | none => false) && (List.range l.length).all fun i => i == j || match l[i]? with
    | some p => p.dst != some t
    | none => true
def dstNone (l : List Oper) (t : Nat) : Bool := l.all fun p => p.dst != some t
theorem ev_mine {u : Nat → Value} {a0 : Act} {l : List Oper} {t j : Nat} (h : dstOnly l t j = true) (ht : t < a0.tmps.size) : (frm l u 0 a0).eval (.tmp t) = u j := by
  unfold dstOnly at h
  rw [Bool.and_eq_true] at h
  obtain ⟨h1, h2⟩ := h
  cases hj : l[j]? with
  | none => rw [hj] at h1; cases h1
  | some o =>
    rw [hj] at h1
    have := (frm_spec u l 0 a0).2.2.2 j o t hj (beq_iff_eq.1 h1) (fun i p hi hne => by
      rw [List.all_eq_true] at h2
      have hlt : i < l.length := (List.getElem?_eq_some_iff.1 hi).1
      have := h2 i (List.mem_range.2 hlt)
      rw [hi] at this
      simp only [Bool.or_eq_true, beq_iff_eq, bne_iff_ne] at this
      rcases this with e | e
      · exact absurd e hne
      · exact e) ht
    rw [Nat.zero_add] at this
    show (frm l u 0 a0).tmps.getD t undef = u j
    rw [Array.getD_eq_getD_getElem?, this]
    rfl
theorem ev_rest {u : Nat → Value} {a0 : Act} {l : List Oper} {t : Nat} (h : dstNone l t = true) : (frm l u 0 a0).eval (.tmp t) = a0.eval (.tmp t) := by
  have := (frm_spec u l 0 a0).2.2.1 t (fun j o hj e => by
    unfold dstNone at h
    rw [List.all_eq_true] at h
    have h2 := h o (List.mem_of_getElem? hj)
    rw [e] at h2
    simp at h2)
  show (frm l u 0 a0).tmps.getD t undef = a0.tmps.getD t undef
  rw [Array.getD_eq_getD_getElem?, Array.getD_eq_getD_getElem?, this]
end
end Go.Proofs.YtpoejeambnbcaaaGreat

namespace Go.Proofs.YtpoejeambnbcaaaGreat
open Go.RowKit

section
variable {P : Program} {l : List Oper} {n : Nat} {a0 : Act} {w0 : World} {R : Nat → Value → World → Prop} {fr : Nat → Bool}
/-- What is known of a frame in which the first n operations have left u. -/
structure Ev (l : List Oper) (n : Nat) (a0 : Act) (u : Nat → Value) (E : Operand → Value) : Prop where
  mine : ∀ t j, dstOnly (l.take n) t j = true → t < a0.tmps.size → E (.tmp t) = u j
  rest : ∀ t, dstNone (l.take n) t = true → E (.tmp t) = a0.eval (.tmp t)
  const : ∀ v, E (.const v) = v
  fn : ∀ f, E (.func f) = .func (.func f) #[] #[]
theorem ev_of (u : Nat → Value) : Ev l n a0 u (frm (l.take n) u 0 a0).eval := ⟨fun _ _ hd ht => ev_mine hd ht, fun _ hd => ev_rest hd, fun _ => rfl, fun _ => rfl⟩
theorem jstep_ev {i : Nat} {o : Oper} (hg : o.guard = none)
    (h : ∀ (E : Operand → Value) (u : Nat → Value) (x : Past w0), Ev l n a0 u E → (∀ j, j < n → waits l.toArray i j = true → R j (u j) x.1) →
      gives P (fun v w' => Below x.1.heap.size x.1 w' ∧ R i v w' ∧ (fr i = true → ∃ p, v = .pointer (some ⟨p, 0, none⟩) ∧ x.1.heap.size ≤ p ∧ p < w'.heap.size)) ((execOp E o).run P x.1)) : JStep P l n a0 w0 R fr i o := by
  intro u x hd
  rw [if_pos (by unfold Region.wanted; rw [hg])]
  exact h _ u x (ev_of u) hd
/-- A guarded one that is wanted: the operation on which it hangs has yielded what it asks. -/
theorem jstep_guard {i : Nat} {o : Oper} (k t : Nat) (b : Bool) (hg : o.guard = some (k, b)) (ht : (match l[k]? with | some p => p.dst == some t | none => false) = true) (hdt : dstOnly (l.take n) t k = true) (hsz : t < a0.tmps.size)
    (hk : ∀ (u : Nat → Value) (x : Past w0), (∀ j, j < n → waits l.toArray i j = true → R j (u j) x.1) → u k = .bool b)
    (h : ∀ (E : Operand → Value) (u : Nat → Value) (x : Past w0), Ev l n a0 u E → (∀ j, j < n → waits l.toArray i j = true → R j (u j) x.1) →
      gives P (fun v w' => Below x.1.heap.size x.1 w' ∧ R i v w' ∧ (fr i = true → ∃ p, v = .pointer (some ⟨p, 0, none⟩) ∧ x.1.heap.size ≤ p ∧ p < w'.heap.size)) ((execOp E o).run P x.1)) : JStep P l n a0 w0 R fr i o := by
  intro u x hd
  have hE := ev_mine (u := u) hdt hsz
  rw [hk u x hd] at hE
  have hdst : ((l.toArray[k]?).bind (·.dst)) = some t := by
    rw [List.getElem?_toArray]
    cases hl : l[k]? with
    | none => rw [hl] at ht; cases ht
    | some p => rw [hl] at ht; simpa using ht
  have hread : (frm (l.take n) u 0 a0).tmps[t]? = some (.bool b) := by
    have e : (frm (l.take n) u 0 a0).tmps.getD t undef = .bool b := hE
    rw [Array.getD_eq_getD_getElem?] at e
    cases hq : (frm (l.take n) u 0 a0).tmps[t]? with
    | none => rw [hq] at e; cases e
    | some v => rw [hq] at e; exact congrArg some e
  rw [if_pos (by
    unfold Region.wanted
    rw [hg]
    simp only [yielded, hdst, Option.bind_some, hread]
    cases b <;> rfl)]
  exact h _ u x (ev_of u) hd
end
end Go.Proofs.YtpoejeambnbcaaaGreat
