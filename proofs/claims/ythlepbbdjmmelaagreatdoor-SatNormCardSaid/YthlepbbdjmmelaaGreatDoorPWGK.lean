/- The contracts of the document's own small answers for rle. No conditions but that the lists' cells read as integers. The statements' own head of layer 10: the document's example. No conditions. A region that draws its order, by an invariant of what has run: an operation may use up what another one made (an append its row). No conditions. A step of a region that draws its .. -/
import Derived.Test.YthlepbbdjmmelaaGreatDoorPWGA
import Derived.Test.YthlepbbdjmmelaaGreatDoorPWGJ
import Derived.Test.YthlepbbdjmmelaaGreatDoorPWMA
import Derived.Test.YthlepbbdjmmelaaGreatDoorPWGF
import Derived.Test.YthlepbbdjmmelaaGreatDoorPWGG
import Derived.Test.YthlepbbdjmmelaaGreatDoorPWGD
import Derived.Test.YthlepbbdjmmelaaGreatDoorPWGB
namespace Go.Proofs.YthlepbbdjmmelaaGreatDoor
section
open Go.ChangeShapes Go.WideShapes Go.ChangeAt Go.RowKit
attribute [local irreducible] Go.Calls
set_option maxHeartbeats 1000000 in
theorem rsame_c (l r:List Sg) (a a':Option Addr) (cap cap':Nat) (w:World) (hl:l.length≤9223372036854775807) (hr:r.length≤9223372036854775807) (hA:ArgS w a l) (hA':ArgS w a' r) :
    Calls Tryz.prog 11 #[.slice a l.length cap,.slice a' r.length cap'] w fun e w' => e = .returned (.bool (sameB l r))∧Below w.heap.size w w':=by
  have HA:=hidE hA;have HA':=hidE hA';clear hA hA'
  by_cases hlen:l.length = r.length
  · have e1:((l.length:Int) != (r.length:Int)) = false:=by rw [bne_eq_false_iff_eq];omega
    have e2:((l.length:Int) == (r.length:Int)) = true:=beq_iff_eq.2 (by omega)
    have HL:=hidE hlen
    have le1:l.length≤r.length:=by omega
    clear hlen
    go_enter Tryz.func11,Tryz.ntmps11
    go_wp2
    go_loopg [5] l.length (fun g vi wr => ∃ k:Nat,k≤l.length∧l.length - k≤g∧vi = .int .i64 k∧(∀ i,i < k→ats l i = ats r i∧vls l i = vls r i)∧Below w.heap.size w wr)
    case atStart => exact ⟨0,Nat.zero_le _,by omega,rfl,fun i hi => by omega,Below.refl _ _⟩
    case round =>
      obtain ⟨k,hk,hg,rfl,hs,hb⟩:=hrel
      have HS:=hidE hs;have HB:=hidE hb;clear hs hb
      by_cases hlt:k < l.length
      · obtain ⟨b,off,rfl,hb,hc⟩:=(HA.out.past HB.out) (by omega)
        obtain ⟨c0,c1,c2⟩:=hc.get hlt
        obtain ⟨b',off',rfl,hb',hc'⟩:=(HA'.out.past HB.out) (by omega)
        obtain ⟨d0,d1,d2⟩:=hc'.get (i:=k) (by omega)
        clear hc hc'
        by_cases hne:ats l k = ats r k∧(vls l k).1 = (vls r k).1∧(vls l k).2 = (vls r k).2
        · have HX:=hidE (show ∀ i,i < k + 1→ats l i = ats r i∧vls l i = vls r i from fun i hi => by
            by_cases e:i = k
            · rw [e];exact ⟨hne.1,Prod.ext hne.2.1 hne.2.2⟩
            · exact HS.out i (by omega))
          obtain ⟨n1,n2,n3⟩:=hne
          rw [← n1] at d0;rw [← n2] at d1;rw [← n3] at d2
          clear n1 n2 n3
          generalize ats l k = u at *
          generalize vls l k = v at *
          go_wp2
          go_quiet (fail)
          go_wp2
          go_roundg (l.length - (k + 1))
          case measure => omega
          case rel => exact ⟨k + 1,by omega,Nat.le_refl _,by go_num,HX.out,by have:=HB.out;(repeat (first | exact Below.refl _ _ | assumption | refine balloc ?_ _ | refine below_drewN ?_ _ | refine bstep (by assumption) ?_ | refine bstep (Past.prop _) ?_ | refine Below.setCell ?_ (by first | exact Nat.le_refl _ | (simp;done) | (simp;omega)) _))⟩
        · have HX:=hidE (show sameB l r = false from same_f (i:=k) (by
            by_cases e:ats l k = ats r k
            · right;intro h;exact hne ⟨e,by rw [h],by rw [h]⟩
            · exact .inl e))
          by_cases n1:ats l k = ats r k
          · by_cases n2:(vls l k).1 = (vls r k).1
            · have n3:((vls l k).2 == (vls r k).2) = false:=beq_eq_false_iff_ne.2 fun h => hne ⟨n1,n2,h⟩
              rw [← n1] at d0;rw [← n2] at d1
              clear n1 n2 hne
              generalize ats l k = u at *
              generalize vls l k = v at *
              generalize vls r k = v' at *
              go_wp2
              go_quiet (fail)
              go_wp2
              go_ret
              exact ⟨ret_bool (by rw [HX.out]),by have:=HB.out;(repeat (first | exact Below.refl _ _ | assumption | refine balloc ?_ _ | refine below_drewN ?_ _ | refine bstep (by assumption) ?_ | refine bstep (Past.prop _) ?_ | refine Below.setCell ?_ (by first | exact Nat.le_refl _ | (simp;done) | (simp;omega)) _))⟩
            · have n3:((vls l k).1 == (vls r k).1) = false:=beq_eq_false_iff_ne.2 n2
              rw [← n1] at d0
              clear n1 n2 hne
              generalize ats l k = u at *
              generalize vls l k = v at *
              generalize vls r k = v' at *
              go_wp2
              go_quiet (fail)
              go_wp2
              go_ret
              exact ⟨ret_bool (by rw [HX.out]),by have:=HB.out;(repeat (first | exact Below.refl _ _ | assumption | refine balloc ?_ _ | refine below_drewN ?_ _ | refine bstep (by assumption) ?_ | refine bstep (Past.prop _) ?_ | refine Below.setCell ?_ (by first | exact Nat.le_refl _ | (simp;done) | (simp;omega)) _))⟩
          · have n3:(ats l k == ats r k) = false:=beq_eq_false_iff_ne.2 n1
            clear n1 hne
            generalize ats l k = u at *
            generalize vls l k = v at *
            generalize ats r k = u' at *
            generalize vls r k = v' at *
            go_wp2
            go_quiet (fail)
            go_wp2
            go_ret
            exact ⟨ret_bool (by rw [HX.out]),by have:=HB.out;(repeat (first | exact Below.refl _ _ | assumption | refine balloc ?_ _ | refine below_drewN ?_ _ | refine bstep (by assumption) ?_ | refine bstep (Past.prop _) ?_ | refine Below.setCell ?_ (by first | exact Nat.le_refl _ | (simp;done) | (simp;omega)) _))⟩
      · have hk':k = l.length:=by omega
        subst hk'
        have HX:=hidE (same_t HL.out HS.out)
        go_wp2
        go_ret
        exact ⟨ret_bool (by rw [HX.out]),HB.out⟩
  · have e1:((l.length:Int) != (r.length:Int)) = true:=bne_iff_ne.2 (by omega)
    have e2:((l.length:Int) == (r.length:Int)) = false:=beq_eq_false_iff_ne.2 (by omega)
    have HX:=hidE (show sameB l r = false from decide_eq_false (fun e => hlen (by rw [e])))
    clear hlen
    go_enter Tryz.func11,Tryz.ntmps11
    go_wp2
    go_ret
    exact ⟨ret_bool (by rw [HX.out]),Below.refl _ _⟩
end
section
open Go.ChangeShapes Go.WideShapes Go.ChangeAt Go.RowKit
attribute [local irreducible] Go.Calls
theorem plan10_c (w:World):Calls Tryz.prog 12 #[] w fun e w' => ∃ b,w.heap.size≤b∧e = .returned (def8 0 100 (some ⟨b,0,none⟩) 5 5)∧Blk w' b (cellsOfP T10).toArray 59∧Below w.heap.size w w':=by
  go_enter Tryz.func12,Tryz.ntmps12
  go_wp2
  refine bodyPost_ret (v:=def8 0 100 (some ⟨w.heap.size + 1,0,none⟩) 5 5) (by simp [results,Tryz.results12,go_sem]) rfl ⟨w.heap.size + 1,by omega,rfl, ?_, ?_⟩
  · exact Blk.made_at _ _ _ _ (by simp)
  · (repeat (first | exact Below.refl _ _ | assumption | refine balloc ?_ _ | refine below_drewN ?_ _ | refine bstep (by assumption) ?_ | refine bstep (Past.prop _) ?_ | refine Below.setCell ?_ (by first | exact Nat.le_refl _ | (simp;done) | (simp;omega)) _))
theorem argVs_blk {w:World} {q:Nat} {W:List Pc} {cs:Array Value} {t:TypeId} (h:Blk w q cs t) (hc:∀ i,i < W.length→cs[i * 2]? = some (.int .i64 (W.getD i (0,0)).1)∧cs[i * 2 + 1]? = some (.int .i64 (W.getD i (0,0)).2)):ArgVs w (some ⟨q,0,none⟩) W:=fun _ =>
  ⟨q,0,rfl,h.lt,fun i hi => by
    obtain ⟨h1,h2⟩:=hc i hi
    rw [Nat.zero_add]
    exact ⟨(h.cell (i * 2)).trans h1,(h.cell (i * 2 + 1)).trans h2⟩⟩
theorem argVs_g {w:World} {q:Nat} {x1 y1:Int} {t:TypeId} (h:Blk w q #[.int .i64 x1,.int .i64 y1] t):ArgVs w (some ⟨q,0,none⟩) [(x1,y1)]:=argVs_blk h fun i hi => by
  have:i = 0:=by simpa using hi
  subst this;exact ⟨rfl,rfl⟩
theorem argVs_2 {w:World} {q:Nat} {x1 y1 x2 y2:Int} {t:TypeId} (h:Blk w q #[.int .i64 x1,.int .i64 y1,.int .i64 x2,.int .i64 y2] t):ArgVs w (some ⟨q,0,none⟩) [(x1,y1),(x2,y2)]:=argVs_blk h fun i hi => by
  have:i = 0 ∨ i = 1:=by simp at hi;omega
  rcases this with rfl | rfl <;> exact ⟨rfl,rfl⟩
theorem argVs_3 {w:World} {q:Nat} {x1 y1 x2 y2 x3 y3:Int} {t:TypeId} (h:Blk w q #[.int .i64 x1,.int .i64 y1,.int .i64 x2,.int .i64 y2,.int .i64 x3,.int .i64 y3] t):ArgVs w (some ⟨q,0,none⟩) [(x1,y1),(x2,y2),(x3,y3)]:=argVs_blk h fun i hi => by
  have:i = 0 ∨ i = 1 ∨ i = 2:=by simp at hi;omega
  rcases this with rfl | rfl | rfl <;> exact ⟨rfl,rfl⟩
structure H10 (w0:World) (p b:Nat) (w:World):Prop where
  bel:Below w0.heap.size w0 w
  d:Blk w p #[.int .i64 0,.int .i64 100,.slice (some ⟨b,0,none⟩) 5 5] 24
  parts:Blk w b (cellsOfP T10).toArray 59
  good:Blk w (p + 1) #[.int .i64 1,.int .i64 0,.int .i64 3,.int .i64 10] 45
  late:Blk w (p + 1 + 1) #[.int .i64 1,.int .i64 80,.int .i64 4,.int .i64 90] 45
theorem H10.past {w0:World} {p b:Nat} {w w':World} (h:H10 w0 p b w) (hb:Below w.heap.size w w'):H10 w0 p b w':=⟨h.bel.trans (hb.mono h.bel.size),h.d.past hb,h.parts.past hb,h.good.past hb,h.late.past hb⟩
theorem H10.T {w0:World} {p b:Nat} {w:World} (h:H10 w0 p b w):ArgP w (some ⟨b,0,none⟩) T10:=argP_blk h.parts
theorem H10.G {w0:World} {p b:Nat} {w:World} (h:H10 w0 p b w):ArgVs w (some ⟨p + 1,0,none⟩) good10:=argVs_2 h.good
theorem H10.L {w0:World} {p b:Nat} {w:World} (h:H10 w0 p b w):ArgVs w (some ⟨p + 1 + 1,0,none⟩) late10:=argVs_2 h.late
theorem H10.one {w0:World} {p b:Nat} {w:World} (h:H10 w0 p b w):ArgVs w (some ⟨p + 1,0,none⟩) [(1,0)]:=argVs_blk h.good fun i hi => by
  have:i = 0:=by simpa using hi
  subst this;exact ⟨rfl,rfl⟩
theorem rsame_10 {w:World} {n m c1 c2:Nat} {a1 a2:Option Addr} {F G:List Sg} {b:Bool} (h1:SliS w (.slice a1 n c1) F) (h2:SliS w (.slice a2 m c2) G) (he:sameB F G = b) :
    Calls Tryz.prog 11 #[.slice a1 n c1,.slice a2 m c2] w fun e w' => e = .returned (.bool b)∧Below w.heap.size w w':=by
  obtain ⟨e1,q1,q2,q3⟩:=h1.len;obtain ⟨e2,s1,s2,s3⟩:=h2.len
  subst e1;subst e2;subst he
  exact rsame_c F G a1 a2 c1 c2 w (by omega) (by omega) q3 s3
theorem look_0 (t:TI):lookT 0 t = t:=by unfold lookT;exact if_pos rfl
theorem look_2 (t:TI):lookT 2 t = tiZ:=by unfold lookT;exact if_neg (by decide)
theorem h10_use (m c:Int) (W:List Pc) (n:Nat) (er:Int) (L:List Sg) (her:wrongS 0 100 T10 (unitB m c) W = er) (hL:(if er = 0 then useL T10 m c W else []) = L) (hn:W.length = n) (h100:n≤100000) (a wa:Option Addr) (wcap:Nat) (w:World) (hA:ArgP w a T10) (hW:ArgVs w wa W) :
    Calls Tryz.prog 8 #[def8 0 100 a 5 5,.slice wa n wcap,V m c] w (OfIs w L er):=by
  have:=satUse_c 0 100 m c T10 W a wa 5 wcap er w (by decide) (by omega) hA hW (by omega) (by omega) her
  rw [hL,hn] at this;exact this
theorem h10_dec (z:Int) (h:0≤z∧z < 5):decide (0≤z∧z < (T10.length:Int)) = true:=decide_eq_true ⟨h.1,by have:(T10.length:Int) = 5:=rfl;omega⟩
theorem h10_term (W:List Pc) (n:Nat) (er:Int) (r:Bool) (her:wrongS 0 100 T10 true W = er) (hr:(lookT er (satI W y10 K10 0)).ok = r) (hn:W.length = n) (h100:n≤100000) (a wa:Option Addr) (wcap:Nat) (w:World) (hA:ArgP w a T10) (hW:ArgVs w wa W) :
    Calls Tryz.prog 13 #[def8 0 100 a 5 5,.slice wa n wcap,.int .i64 0] w fun e w' => e = .returned (.tuple #[.bool r,.int .i64 er])∧Below w.heap.size w w':=by
  have:=satTerm_c 0 100 T10 W a wa 5 wcap 0 er (satI W y10 K10 0) w (by decide) (by omega) hA hW (by omega) (by omega) (by omega) (by rw [h10_dec 0 (by omega)];exact her) (fun _ => here10 W)
  rw [hr,hn] at this;exact this
theorem h10_ends (W:List Pc) (n:Nat) (x y:Int) (her:wrongS 0 100 T10 true W = 0) (hx:seB (satI W y10 K10 0).se = x) (hy:seE (satI W y10 K10 0).se = y) (hz:(satI W y10 K10 0).se.isSome = true) (hn:W.length = n) (h100:n≤100000) (a wa:Option Addr) (wcap:Nat) (w:World) (hA:ArgP w a T10) (hW:ArgVs w wa W) :
    Calls Tryz.prog 14 #[def8 0 100 a 5 5,.slice wa n wcap,.int .i64 0] w fun e w' => e = .returned (.tuple #[.int .i64 x,.int .i64 y,.bool true,.int .i64 0])∧Below w.heap.size w w':=by
  have:=satEnds_c 0 100 T10 W a wa 5 wcap 0 0 (satI W y10 K10 0) w (by decide) (by omega) hA hW (by omega) (by omega) (by omega) (by rw [h10_dec 0 (by omega)];exact her) (fun _ => here10 W)
  rw [show lookT 0 (satI W y10 K10 0) = satI W y10 K10 0 from if_pos rfl,hx,hy,hz,hn] at this;exact this
theorem h10_short (z:Int) (t:TI) (x:Int) (hz:0≤z∧z < 5) (hh:Here T10 [] z t) (hx:t.len = x) (a:Option Addr) (w:World) (hA:ArgP w a T10) :
    Calls Tryz.prog 9 #[def8 0 100 a 5 5,.int .i64 z] w fun e w' => e = .returned (.tuple #[.int .i64 x,.int .i64 0])∧Below w.heap.size w w':=by
  have:=satShort_c 0 100 T10 a 5 z 0 t w (by decide) hA (by omega) (by omega) (by omega) (by rw [h10_dec z hz];exact w10_none) (fun _ => hh)
  rw [show lookT 0 t = t from if_pos rfl,hx] at this;exact this
theorem h10_sat (W:List Pc) (n:Nat) (r:Bool) (her:wrongS 0 100 T10 true W = 0) (hr:((satI W y10 K10 0).ok && (decide (0≤seB (satI W y10 K10 0).se) && decide (seE (satI W y10 K10 0).se≤100))) = r) (hn:W.length = n) (h100:n≤100000) (a wa:Option Addr) (wcap:Nat) (w:World) (hA:ArgP w a T10) (hW:ArgVs w wa W) :
    Calls Tryz.prog 10 #[def8 0 100 a 5 5,.slice wa n wcap] w fun e w' => e = .returned (.bool r)∧Below w.heap.size w w':=by
  have:=satSat_c 0 100 T10 W a wa 5 wcap 0 (satI W y10 K10 0) w (by decide) (by omega) hA hW (by omega) (by omega) (by rw [h10_dec 0 (by omega)];exact her) (fun _ => here10 W)
  rw [show lookT 0 (satI W y10 K10 0) = satI W y10 K10 0 from if_pos rfl,hr,hn] at this;exact this
end
section
open Go.RowKit
section
variable {P:Program} {l:List Oper} {n:Nat} {a0:Act} {w0:World}
def dstOnly (l : List Oper) (t j : Nat) : Bool := (match l[j]? with
    | some o => o.dst == some t
    | none => false) && (List.range l.length).all fun i => i == j || match l[i]? with
    | some p => p.dst != some t
    | none => true
def dstNone (l:List Oper) (t:Nat):Bool:=l.all fun p => p.dst != some t
theorem ev_mine {u:Nat→Value} {a0:Act} {l:List Oper} {t j:Nat} (h:dstOnly l t j = true) (ht:t < a0.tmps.size):(frm l u 0 a0).eval (.tmp t) = u j:=by
  unfold dstOnly at h
  rw [Bool.and_eq_true] at h
  obtain ⟨h1,h2⟩:=h
  cases hj:l[j]? with
  | none => rw [hj] at h1;cases h1
  | some o =>
    rw [hj] at h1
    have:=(frm_spec u l 0 a0).2.2.2 j o t hj (beq_iff_eq.1 h1) (fun i p hi hne => by
      rw [List.all_eq_true] at h2
      have hlt:i < l.length:=(List.getElem?_eq_some_iff.1 hi).1
      have:=h2 i (List.mem_range.2 hlt)
      rw [hi] at this
      simp only [Bool.or_eq_true,beq_iff_eq,bne_iff_ne] at this
      rcases this with e | e
      · exact absurd e hne
      · exact e) ht
    rw [Nat.zero_add] at this
    show (frm l u 0 a0).tmps.getD t undef = u j
    rw [Array.getD_eq_getD_getElem?,this]
    rfl
theorem ev_rest {u:Nat→Value} {a0:Act} {l:List Oper} {t:Nat} (h:dstNone l t = true):(frm l u 0 a0).eval (.tmp t) = a0.eval (.tmp t):=by
  have:=(frm_spec u l 0 a0).2.2.1 t (fun j o hj e => by
    unfold dstNone at h
    rw [List.all_eq_true] at h
    have h2:=h o (List.mem_of_getElem? hj)
    rw [e] at h2
    simp at h2)
  show (frm l u 0 a0).tmps.getD t undef = a0.tmps.getD t undef
  rw [Array.getD_eq_getD_getElem?,Array.getD_eq_getD_getElem?,this]
end
end
section
open Go.RowKit
section
variable {P:Program} {l:List Oper} {n:Nat} {a0:Act} {w0:World} {R:Nat→Value→World→Prop} {fr:Nat→Bool}
structure Ev (l:List Oper) (n:Nat) (a0:Act) (u:Nat→Value) (E:Operand→Value):Prop where
  mine:∀ t j,dstOnly (l.take n) t j = true→t < a0.tmps.size→E (.tmp t) = u j
  rest:∀ t,dstNone (l.take n) t = true→E (.tmp t) = a0.eval (.tmp t)
  const:∀ v,E (.const v) = v
  fn:∀ f,E (.func f) = .func (.func f) #[] #[]
theorem ev_of (u:Nat→Value):Ev l n a0 u (frm (l.take n) u 0 a0).eval:=⟨fun _ _ hd ht => ev_mine hd ht,fun _ hd => ev_rest hd,fun _ => rfl,fun _ => rfl⟩
theorem jstep_ev {i:Nat} {o:Oper} (hg:o.guard = none)
    (h:∀ (E:Operand→Value) (u:Nat→Value) (x:Past w0),Ev l n a0 u E→(∀ j,j < n→waits l.toArray i j = true→R j (u j) x.1) →
      gives P (fun v w' => Below x.1.heap.size x.1 w'∧R i v w'∧(fr i = true→∃ p,v = .pointer (some ⟨p,0,none⟩)∧x.1.heap.size≤p∧p < w'.heap.size)) ((execOp E o).run P x.1)):JStep P l n a0 w0 R fr i o:=by
  intro u x hd
  rw [if_pos (by unfold Region.wanted;rw [hg])]
  exact h _ u x (ev_of u) hd
theorem jstep_guard {i:Nat} {o:Oper} (k t:Nat) (b:Bool) (hg:o.guard = some (k,b)) (ht:(match l[k]? with | some p => p.dst == some t | none => false) = true) (hdt:dstOnly (l.take n) t k = true) (hsz:t < a0.tmps.size)
    (hk:∀ (u:Nat→Value) (x:Past w0),(∀ j,j < n→waits l.toArray i j = true→R j (u j) x.1)→u k = .bool b)
    (h:∀ (E:Operand→Value) (u:Nat→Value) (x:Past w0),Ev l n a0 u E→(∀ j,j < n→waits l.toArray i j = true→R j (u j) x.1) →
      gives P (fun v w' => Below x.1.heap.size x.1 w'∧R i v w'∧(fr i = true→∃ p,v = .pointer (some ⟨p,0,none⟩)∧x.1.heap.size≤p∧p < w'.heap.size)) ((execOp E o).run P x.1)):JStep P l n a0 w0 R fr i o:=by
  intro u x hd
  have hE:=ev_mine (u:=u) hdt hsz
  rw [hk u x hd] at hE
  have hdst:((l.toArray[k]?).bind (·.dst)) = some t:=by
    rw [List.getElem?_toArray]
    cases hl:l[k]? with
    | none => rw [hl] at ht;cases ht
    | some p => rw [hl] at ht;simpa using ht
  have hread:(frm (l.take n) u 0 a0).tmps[t]? = some (.bool b):=by
    have e:(frm (l.take n) u 0 a0).tmps.getD t undef = .bool b:=hE
    rw [Array.getD_eq_getD_getElem?] at e
    cases hq:(frm (l.take n) u 0 a0).tmps[t]? with
    | none => rw [hq] at e;cases e
    | some v => rw [hq] at e;exact congrArg some e
  rw [if_pos (by
    unfold Region.wanted
    rw [hg]
    simp only [yielded,hdst,Option.bind_some,hread]
    cases b <;> rfl)]
  exact h _ u x (ev_of u) hd
end
end
section
open Go.ChangeShapes Go.WideShapes Go.ChangeAt Go.RowKit
attribute [local irreducible] Go.Calls
set_option maxHeartbeats 8000000 in
set_option maxRecDepth 100000 in
theorem head10_c (w:World):Calls Tryz.prog 4 #[] w fun e w' => e = .returned (.bool true)∧Below w.heap.size w w':=by
  go_enter Tryz.func4,Tryz.ntmps4
  go_wp2_with fail
  ((with_reducible refine (plan10_c _).mono ?_);rintro e w1 ⟨b,hbz,rfl,hB,hb1⟩)
  have H1:=hidE hb1;have HP:=hidE hB
  clear hb1 hB
  go_wp2_with fail
  obtain ⟨w2,hw2⟩:∃ w2,w2 = ((w1.alloc (.cells #[.int .i64 0,.int .i64 100,.slice (some ⟨b,0,none⟩) 5 5] 24)).alloc (.cells #[.int .i64 1,.int .i64 0,.int .i64 3,.int .i64 10] 45)).alloc (.cells #[.int .i64 1,.int .i64 80,.int .i64 4,.int .i64 90] 45):=⟨_,rfl⟩
  have h2:H10 w w1.heap.size b w2:=by
    rw [hw2]
    have hB1:=H1.out
    exact ⟨hB1.trans ((show Below w1.heap.size w1 _ from by (repeat (first | exact Below.refl _ _ | assumption | refine balloc ?_ _ | refine below_drewN ?_ _ | refine bstep (by assumption) ?_ | refine bstep (Past.prop _) ?_ | refine Below.setCell ?_ (by first | exact Nat.le_refl _ | (simp;done) | (simp;omega)) _))).mono hB1.size),((Blk.made _ _ _).alloc _).alloc _,((HP.out.alloc _).alloc _).alloc _,(Blk.made_at _ _ _ _ (by simp)).alloc _,Blk.made_at _ _ _ _ (by simp)⟩
  rw [← hw2]
  have HH2:=hidE h2
  have hbz1:=HP.out.lt
  clear hw2 h2 H1 HP
  obtain ⟨p,hp⟩:∃ p,p = w1.heap.size:=⟨_,rfl⟩
  rw [← hp] at HH2 ⊢
  clear hp hbz1
  have dd:=HH2.out.d;have d0:=dd.cell 0;have d1:=dd.cell 1;have d2:=dd.cell 2;have dz:=dd.lt
  simp at d0 d1 d2
  clear dd
  ((with_reducible refine (h10_use 1 2 good10 2 0 [(0,(2,4)),(10,(4,8)),(15,(0,0))] w10_use (by rw [if_pos rfl];exact u10) rfl (by decide) _ _ _ _ (HH2.out.past (show Below w2.heap.size w2 _ from by (repeat (first | exact Below.refl _ _ | assumption | refine balloc ?_ _ | refine below_drewN ?_ _ | refine bstep (by assumption) ?_ | refine bstep (Past.prop _) ?_ | refine Below.setCell ?_ (by first | exact Nat.le_refl _ | (simp;done) | (simp;omega)) _)))).T (HH2.out.past (show Below w2.heap.size w2 _ from by (repeat (first | exact Below.refl _ _ | assumption | refine balloc ?_ _ | refine below_drewN ?_ _ | refine bstep (by assumption) ?_ | refine bstep (Past.prop _) ?_ | refine Below.setCell ?_ (by first | exact Nat.le_refl _ | (simp;done) | (simp;omega)) _)))).G).mono ?_);rintro e w3 ⟨v3,rfl,hs3,hb3⟩)
  have HH3:=hidE ((HH2.out.past (show Below w2.heap.size w2 _ from by (repeat (first | exact Below.refl _ _ | assumption | refine balloc ?_ _ | refine below_drewN ?_ _ | refine bstep (by assumption) ?_ | refine bstep (Past.prop _) ?_ | refine Below.setCell ?_ (by first | exact Nat.le_refl _ | (simp;done) | (simp;omega)) _)))).past hb3)
  obtain ⟨fa,fc,rfl,_⟩:=id hs3
  have HF3:=hidE hs3
  clear hs3
  clear hb3 HH2 d0 d1 d2 dz
  have dd:=HH3.out.d;have d0:=dd.cell 0;have d1:=dd.cell 1;have d2:=dd.cell 2;have dz:=dd.lt
  simp at d0 d1 d2
  clear dd
  go_wp2_with fail
  ((with_reducible refine (h10_term late10 2 0 true w10_late (by rw [look_0];exact s10_late.1) rfl (by decide) _ _ _ _ (HH3.out.past (show Below w3.heap.size w3 _ from by (repeat (first | exact Below.refl _ _ | assumption | refine balloc ?_ _ | refine below_drewN ?_ _ | refine bstep (by assumption) ?_ | refine bstep (Past.prop _) ?_ | refine Below.setCell ?_ (by first | exact Nat.le_refl _ | (simp;done) | (simp;omega)) _)))).T (HH3.out.past (show Below w3.heap.size w3 _ from by (repeat (first | exact Below.refl _ _ | assumption | refine balloc ?_ _ | refine below_drewN ?_ _ | refine bstep (by assumption) ?_ | refine bstep (Past.prop _) ?_ | refine Below.setCell ?_ (by first | exact Nat.le_refl _ | (simp;done) | (simp;omega)) _)))).L).mono ?_);rintro e w4 ⟨rfl,hb4⟩)
  have HH4:=hidE ((HH3.out.past (show Below w3.heap.size w3 _ from by (repeat (first | exact Below.refl _ _ | assumption | refine balloc ?_ _ | refine below_drewN ?_ _ | refine bstep (by assumption) ?_ | refine bstep (Past.prop _) ?_ | refine Below.setCell ?_ (by first | exact Nat.le_refl _ | (simp;done) | (simp;omega)) _)))).past hb4)
  have hbk4:=(show Below w3.heap.size w3 _ from by (repeat (first | exact Below.refl _ _ | assumption | refine balloc ?_ _ | refine below_drewN ?_ _ | refine bstep (by assumption) ?_ | refine bstep (Past.prop _) ?_ | refine Below.setCell ?_ (by first | exact Nat.le_refl _ | (simp;done) | (simp;omega)) _))).trans (hb4.mono (by first | exact Nat.le_refl _ | (simp;done) | (simp;omega)))
  have HF4:=hidE (HF3.out.past hbk4);clear HF3 hbk4
  clear hb4 HH3 d0 d1 d2 dz
  have dd:=HH4.out.d;have d0:=dd.cell 0;have d1:=dd.cell 1;have d2:=dd.cell 2;have dz:=dd.lt
  simp at d0 d1 d2
  clear dd
  go_wp2_with fail
  ((with_reducible refine (h10_short 0 _ 15 (by omega) (here10 []) s10_len.1 _ _ (HH4.out.past (show Below w4.heap.size w4 _ from by (repeat (first | exact Below.refl _ _ | assumption | refine balloc ?_ _ | refine below_drewN ?_ _ | refine bstep (by assumption) ?_ | refine bstep (Past.prop _) ?_ | refine Below.setCell ?_ (by first | exact Nat.le_refl _ | (simp;done) | (simp;omega)) _)))).T).mono ?_);rintro e w5 ⟨rfl,hb5⟩)
  have HH5:=hidE ((HH4.out.past (show Below w4.heap.size w4 _ from by (repeat (first | exact Below.refl _ _ | assumption | refine balloc ?_ _ | refine below_drewN ?_ _ | refine bstep (by assumption) ?_ | refine bstep (Past.prop _) ?_ | refine Below.setCell ?_ (by first | exact Nat.le_refl _ | (simp;done) | (simp;omega)) _)))).past hb5)
  have hbk5:=(show Below w4.heap.size w4 _ from by (repeat (first | exact Below.refl _ _ | assumption | refine balloc ?_ _ | refine below_drewN ?_ _ | refine bstep (by assumption) ?_ | refine bstep (Past.prop _) ?_ | refine Below.setCell ?_ (by first | exact Nat.le_refl _ | (simp;done) | (simp;omega)) _))).trans (hb5.mono (by first | exact Nat.le_refl _ | (simp;done) | (simp;omega)))
  have HF5:=hidE (HF4.out.past hbk5);clear HF4 hbk5
  clear hb5 HH4 d0 d1 d2 dz
  have dd:=HH5.out.d;have d0:=dd.cell 0;have d1:=dd.cell 1;have d2:=dd.cell 2;have dz:=dd.lt
  simp at d0 d1 d2
  clear dd
  go_wp2_with fail
  ((with_reducible refine (h10_short 2 _ 5 (by omega) (here10_2 []) s10_len.2 _ _ (HH5.out.past (show Below w5.heap.size w5 _ from by (repeat (first | exact Below.refl _ _ | assumption | refine balloc ?_ _ | refine below_drewN ?_ _ | refine bstep (by assumption) ?_ | refine bstep (Past.prop _) ?_ | refine Below.setCell ?_ (by first | exact Nat.le_refl _ | (simp;done) | (simp;omega)) _)))).T).mono ?_);rintro e w6 ⟨rfl,hb6⟩)
  have HH6:=hidE ((HH5.out.past (show Below w5.heap.size w5 _ from by (repeat (first | exact Below.refl _ _ | assumption | refine balloc ?_ _ | refine below_drewN ?_ _ | refine bstep (by assumption) ?_ | refine bstep (Past.prop _) ?_ | refine Below.setCell ?_ (by first | exact Nat.le_refl _ | (simp;done) | (simp;omega)) _)))).past hb6)
  have hbk6:=(show Below w5.heap.size w5 _ from by (repeat (first | exact Below.refl _ _ | assumption | refine balloc ?_ _ | refine below_drewN ?_ _ | refine bstep (by assumption) ?_ | refine bstep (Past.prop _) ?_ | refine Below.setCell ?_ (by first | exact Nat.le_refl _ | (simp;done) | (simp;omega)) _))).trans (hb6.mono (by first | exact Nat.le_refl _ | (simp;done) | (simp;omega)))
  have HF6:=hidE (HF5.out.past hbk6);clear HF5 hbk6
  clear hb6 HH5 d0 d1 d2 dz
  have dd:=HH6.out.d;have d0:=dd.cell 0;have d1:=dd.cell 1;have d2:=dd.cell 2;have dz:=dd.lt
  simp at d0 d1 d2
  clear dd
  go_wp2_with fail
  ((with_reducible refine (h10_ends late10 2 80 110 w10_late s10_late.2.1 s10_late.2.2.1 s10_late.2.2.2 rfl (by decide) _ _ _ _ (HH6.out.past (show Below w6.heap.size w6 _ from by (repeat (first | exact Below.refl _ _ | assumption | refine balloc ?_ _ | refine below_drewN ?_ _ | refine bstep (by assumption) ?_ | refine bstep (Past.prop _) ?_ | refine Below.setCell ?_ (by first | exact Nat.le_refl _ | (simp;done) | (simp;omega)) _)))).T (HH6.out.past (show Below w6.heap.size w6 _ from by (repeat (first | exact Below.refl _ _ | assumption | refine balloc ?_ _ | refine below_drewN ?_ _ | refine bstep (by assumption) ?_ | refine bstep (Past.prop _) ?_ | refine Below.setCell ?_ (by first | exact Nat.le_refl _ | (simp;done) | (simp;omega)) _)))).L).mono ?_);rintro e w7 ⟨rfl,hb7⟩)
  have HH7:=hidE ((HH6.out.past (show Below w6.heap.size w6 _ from by (repeat (first | exact Below.refl _ _ | assumption | refine balloc ?_ _ | refine below_drewN ?_ _ | refine bstep (by assumption) ?_ | refine bstep (Past.prop _) ?_ | refine Below.setCell ?_ (by first | exact Nat.le_refl _ | (simp;done) | (simp;omega)) _)))).past hb7)
  have hbk7:=(show Below w6.heap.size w6 _ from by (repeat (first | exact Below.refl _ _ | assumption | refine balloc ?_ _ | refine below_drewN ?_ _ | refine bstep (by assumption) ?_ | refine bstep (Past.prop _) ?_ | refine Below.setCell ?_ (by first | exact Nat.le_refl _ | (simp;done) | (simp;omega)) _))).trans (hb7.mono (by first | exact Nat.le_refl _ | (simp;done) | (simp;omega)))
  have HF7:=hidE (HF6.out.past hbk7);clear HF6 hbk7
  clear hb7 HH6 d0 d1 d2 dz
  have dd:=HH7.out.d;have d0:=dd.cell 0;have d1:=dd.cell 1;have d2:=dd.cell 2;have dz:=dd.lt
  simp at d0 d1 d2
  clear dd
  go_wp2_with fail
  ((with_reducible refine (h10_use 1 0 good10 2 2 [] w10_unit (by rw [if_neg (by decide)]) rfl (by decide) _ _ _ _ (HH7.out.past (show Below w7.heap.size w7 _ from by (repeat (first | exact Below.refl _ _ | assumption | refine balloc ?_ _ | refine below_drewN ?_ _ | refine bstep (by assumption) ?_ | refine bstep (Past.prop _) ?_ | refine Below.setCell ?_ (by first | exact Nat.le_refl _ | (simp;done) | (simp;omega)) _)))).T (HH7.out.past (show Below w7.heap.size w7 _ from by (repeat (first | exact Below.refl _ _ | assumption | refine balloc ?_ _ | refine below_drewN ?_ _ | refine bstep (by assumption) ?_ | refine bstep (Past.prop _) ?_ | refine Below.setCell ?_ (by first | exact Nat.le_refl _ | (simp;done) | (simp;omega)) _)))).G).mono ?_);rintro e w8 ⟨v8,rfl,hs8,hb8⟩)
  have HH8:=hidE ((HH7.out.past (show Below w7.heap.size w7 _ from by (repeat (first | exact Below.refl _ _ | assumption | refine balloc ?_ _ | refine below_drewN ?_ _ | refine bstep (by assumption) ?_ | refine bstep (Past.prop _) ?_ | refine Below.setCell ?_ (by first | exact Nat.le_refl _ | (simp;done) | (simp;omega)) _)))).past hb8)
  have hbk8:=(show Below w7.heap.size w7 _ from by (repeat (first | exact Below.refl _ _ | assumption | refine balloc ?_ _ | refine below_drewN ?_ _ | refine bstep (by assumption) ?_ | refine bstep (Past.prop _) ?_ | refine Below.setCell ?_ (by first | exact Nat.le_refl _ | (simp;done) | (simp;omega)) _))).trans (hb8.mono (by first | exact Nat.le_refl _ | (simp;done) | (simp;omega)))
  have HF8:=hidE (HF7.out.past hbk8);clear HF7 hbk8
  clear hs8
  clear hb8 HH7 d0 d1 d2 dz
  have dd:=HH8.out.d;have d0:=dd.cell 0;have d1:=dd.cell 1;have d2:=dd.cell 2;have dz:=dd.lt
  simp at d0 d1 d2
  clear dd
  go_wp2_with fail
  ((with_reducible refine (h10_term [(0,0)] 1 2 false w10_group (by rw [look_2];simp [tiZ]) rfl (by decide) _ _ _ _ (HH8.out.past (show Below w8.heap.size w8 _ from by (repeat (first | exact Below.refl _ _ | assumption | refine balloc ?_ _ | refine below_drewN ?_ _ | refine bstep (by assumption) ?_ | refine bstep (Past.prop _) ?_ | refine Below.setCell ?_ (by first | exact Nat.le_refl _ | (simp;done) | (simp;omega)) _)))).T (argVs_g (Blk.made_at _ _ _ _ (by first | rfl | simp)))).mono ?_);rintro e w9 ⟨rfl,hb9⟩)
  have HH9:=hidE ((HH8.out.past (show Below w8.heap.size w8 _ from by (repeat (first | exact Below.refl _ _ | assumption | refine balloc ?_ _ | refine below_drewN ?_ _ | refine bstep (by assumption) ?_ | refine bstep (Past.prop _) ?_ | refine Below.setCell ?_ (by first | exact Nat.le_refl _ | (simp;done) | (simp;omega)) _)))).past hb9)
  have hbk9:=(show Below w8.heap.size w8 _ from by (repeat (first | exact Below.refl _ _ | assumption | refine balloc ?_ _ | refine below_drewN ?_ _ | refine bstep (by assumption) ?_ | refine bstep (Past.prop _) ?_ | refine Below.setCell ?_ (by first | exact Nat.le_refl _ | (simp;done) | (simp;omega)) _))).trans (hb9.mono (by first | exact Nat.le_refl _ | (simp;done) | (simp;omega)))
  have HF9:=hidE (HF8.out.past hbk9);clear HF8 hbk9
  clear hb9 HH8 d0 d1 d2 dz
  have dd:=HH9.out.d;have d0:=dd.cell 0;have d1:=dd.cell 1;have d2:=dd.cell 2;have dz:=dd.lt
  simp at d0 d1 d2
  clear dd
  go_wp2_with fail
  obtain ⟨w8y,hw8y⟩:∃ w8y,w8y = w9.alloc (.cells #[.int .i64 0,.int .i64 2,.int .i64 4,.int .i64 10,.int .i64 4,.int .i64 8,.int .i64 15,.int .i64 0,.int .i64 0] 51):=⟨_,rfl⟩
  obtain ⟨qb,hqb⟩:∃ qb,qb = w9.heap.size:=⟨_,rfl⟩
  rw [← hw8y,← hqb]
  have hbz9:Below w9.heap.size w9 w8y:=by rw [hw8y];(repeat (first | exact Below.refl _ _ | assumption | refine balloc ?_ _ | refine below_drewN ?_ _ | refine bstep (by assumption) ?_ | refine bstep (Past.prop _) ?_ | refine Below.setCell ?_ (by first | exact Nat.le_refl _ | (simp;done) | (simp;omega)) _))
  have HX:=hidE (HH9.out.past hbz9)
  have HF:=hidE (HF9.out.past hbz9)
  have HWT:=hidE (show SliS w8y (.slice (some ⟨qb,0,none⟩) 3 3) [(0,(2,4)),(10,(4,8)),(15,(0,0))] from by rw [hw8y,hqb];exact sliS_new (Blk.made _ _ _) rfl rfl (by decide))
  have dd:=HX.out.d;have k0:=dd.cell 0;have k1:=dd.cell 1;have k2:=dd.cell 2;have kz:=dd.lt
  simp at k0 k1 k2
  clear dd hw8y hbz9 hqb HH9 HF9 d0 d1 d2 dz
  simp only [List.append_eq,List.cons_append,List.nil_append]
  refine wp_region_J 88 [] (nthR [detR (.agg #[.int .i64 0,.int .i64 100,.slice (some ⟨b,0,none⟩) 5 5]),detR (.slice (some ⟨p + 1,0,none⟩) 2 2),detR (.bool true),detR (.bool true),detR (.agg #[.int .i64 0,.int .i64 100,.slice (some ⟨b,0,none⟩) 5 5]),detR (.agg #[.int .i64 1,.int .i64 0]),detR (.agg #[.int .i64 3,.int .i64 9]),sliR w8y.heap.size 2 #[.int .i64 1,.int .i64 0,.int .i64 3,.int .i64 9] 45,detR (.bool false),detR (.bool true),detR (.bool true),detR (.bool true),detR (.agg #[.int .i64 0,.int .i64 100,.slice (some ⟨b,0,none⟩) 5 5]),detR (.agg #[.int .i64 1,.int .i64 0]),detR (.agg #[.int .i64 3,.int .i64 10]),detR (.agg #[.int .i64 4,.int .i64 20]),sliR w8y.heap.size 3 #[.int .i64 1,.int .i64 0,.int .i64 3,.int .i64 10,.int .i64 4,.int .i64 20] 45,detR (.bool false),detR (.bool true),detR (.bool true),detR (.bool true),detR (.agg #[.int .i64 0,.int .i64 100,.slice (some ⟨b,0,none⟩) 5 5]),detR (.slice (some ⟨p + 1,0,none⟩) 2 2),detR (.slice (some ⟨p + 1,0,none⟩) 1 2),detR (.bool false),detR (.bool true),detR (.bool true),detR (.bool true),detR (.agg #[.int .i64 0,.int .i64 100,.slice (some ⟨b,0,none⟩) 5 5]),detR (.slice (some ⟨p + 1 + 1,0,none⟩) 2 2),detR (.bool false),detR (.bool true),detR (.bool true),detR (.bool true),detR (.bool true),detR (.bool true),detR (.bool true),detR (.int .i64 0),detR (.bool true),detR (.bool true),detR (.bool true),detR (.slice fa 3 fc),detR (.slice (some ⟨qb,0,none⟩) 3 3),detR (.bool true),detR (.bool true),detR (.bool true),detR (.int .i64 0),detR (.bool true),detR (.bool true),detR (.bool true),detR (.int .i64 15),detR (.bool true),detR (.bool true),detR (.bool true),detR (.int .i64 0),detR (.bool true),detR (.bool true),detR (.bool true),detR (.int .i64 5),detR (.bool true),detR (.bool true),detR (.bool true),detR (.int .i64 0),detR (.bool true),detR (.bool true),detR (.bool true),detR (.int .i64 80),detR (.bool true),detR (.bool true),detR (.bool true),detR (.int .i64 110),detR (.bool true),detR (.bool true),detR (.bool true),detR (.bool true),detR (.bool true),detR (.bool true),detR (.int .i64 0),detR (.bool true),detR (.bool true),detR (.bool true),detR (.int .i64 2),detR (.bool true),detR (.bool true),detR (.bool true),detR (.int .i64 2),detR (.bool true),detR (.bool true)]) (fun _ => false) (by kernel_rfl) (by simp) (by kernel_rfl) (stab_nth (by simp [stab_det,stab_sli])) ?_ ?_ ?_
  · intro i o hi ho
    match i,hi with
    | 0, _ =>
      have eo:=Option.some.inj ho
      clear ho
      have hg:o.guard = none:=by rw [← eo]
      refine jstep_ev hg ?_
      subst eo
      intro E u x hE hd
      have a1:E (.tmp 1) = (.pointer (some ⟨p,0,none⟩)):=(hE.rest 1 (by kernel_rfl)).trans rfl
      have hk:=hE.const
      have hfn:=hE.fn
      have hc:=Past.cell x
      clear hE hd
      simp [go_sem,gives,nthR,detR,Below.refl,hc,a1,k0,k1,k2,kz]
    | 1, _ =>
      have eo:=Option.some.inj ho
      clear ho
      have hg:o.guard = none:=by rw [← eo]
      refine jstep_ev hg ?_
      subst eo
      intro E u x hE hd
      have a2:E (.tmp 2) = (.slice (some ⟨p + 1,0,none⟩) 2 2):=(hE.rest 2 (by kernel_rfl)).trans rfl
      have hk:=hE.const
      have hfn:=hE.fn
      have hc:=Past.cell x
      clear hE hd
      simp [go_sem,gives,nthR,detR,Below.refl,a2]
    | 2, _ =>
      have eo:=Option.some.inj ho
      clear ho
      have hg:o.guard = none:=by rw [← eo]
      refine jstep_ev hg ?_
      subst eo
      intro E u x hE hd
      have e79:u 0 = (.agg #[.int .i64 0,.int .i64 100,.slice (some ⟨b,0,none⟩) 5 5]):=hd 0 (by decide) (by kernel_rfl)
      have a79:=(hE.mine 79 0 (by kernel_rfl) (show 79 < 167 by decide)).trans e79
      have e80:u 1 = (.slice (some ⟨p + 1,0,none⟩) 2 2):=hd 1 (by decide) (by kernel_rfl)
      have a80:=(hE.mine 80 1 (by kernel_rfl) (show 80 < 167 by decide)).trans e80
      have hk:=hE.const
      have hfn:=hE.fn
      have hc:=Past.cell x
      clear hE hd
      simp [go_sem,gives,nthR,detR,hfn,a79,a80]
      exact h10_sat good10 2 true w10_good (by rw [s10_good.1,s10_good.2.1,s10_good.2.2];rfl) rfl (by decide) _ _ _ _ (HX.out.past x.2).T (HX.out.past x.2).G
    | 3, _ =>
      have eo:=Option.some.inj ho
      clear ho
      have hg:o.guard = none:=by rw [← eo]
      refine jstep_ev hg ?_
      subst eo
      intro E u x hE hd
      have e81:u 2 = (.bool true):=hd 2 (by decide) (by kernel_rfl)
      have a81:=(hE.mine 81 2 (by kernel_rfl) (show 81 < 167 by decide)).trans e81
      have hk:=hE.const
      have hfn:=hE.fn
      have hc:=Past.cell x
      clear hE hd
      simp [go_sem,gives,nthR,detR,Below.refl,a81]
    | 4, _ =>
      have eo:=Option.some.inj ho
      clear ho
      have hg:o.guard = some (3,true):=by rw [← eo]
      refine jstep_guard (o:=o) 3 82 true hg (by kernel_rfl) (by kernel_rfl) (show 82 < 167 by decide) (fun u x hd => by have e:u 3 = .bool true:=hd 3 (by decide) (by kernel_rfl);exact e) ?_
      subst eo
      intro E u x hE hd
      have a1:E (.tmp 1) = (.pointer (some ⟨p,0,none⟩)):=(hE.rest 1 (by kernel_rfl)).trans rfl
      have hk:=hE.const
      have hfn:=hE.fn
      have hc:=Past.cell x
      clear hE hd
      simp [go_sem,gives,nthR,detR,Below.refl,hc,a1,k0,k1,k2,kz]
    | 5, _ =>
      have eo:=Option.some.inj ho
      clear ho
      have hg:o.guard = some (3,true):=by rw [← eo]
      refine jstep_guard (o:=o) 3 82 true hg (by kernel_rfl) (by kernel_rfl) (show 82 < 167 by decide) (fun u x hd => by have e:u 3 = .bool true:=hd 3 (by decide) (by kernel_rfl);exact e) ?_
      subst eo
      intro E u x hE hd
      have hk:=hE.const
      have hfn:=hE.fn
      have hc:=Past.cell x
      clear hE hd
      simp [go_sem,gives,nthR,detR,Below.refl,hk]
    | 6, _ =>
      have eo:=Option.some.inj ho
      clear ho
      have hg:o.guard = some (3,true):=by rw [← eo]
      refine jstep_guard (o:=o) 3 82 true hg (by kernel_rfl) (by kernel_rfl) (show 82 < 167 by decide) (fun u x hd => by have e:u 3 = .bool true:=hd 3 (by decide) (by kernel_rfl);exact e) ?_
      subst eo
      intro E u x hE hd
      have hk:=hE.const
      have hfn:=hE.fn
      have hc:=Past.cell x
      clear hE hd
      simp [go_sem,gives,nthR,detR,Below.refl,hk]
    | 7, _ =>
      have eo:=Option.some.inj ho
      clear ho
      have hg:o.guard = some (3,true):=by rw [← eo]
      refine jstep_guard (o:=o) 3 82 true hg (by kernel_rfl) (by kernel_rfl) (show 82 < 167 by decide) (fun u x hd => by have e:u 3 = .bool true:=hd 3 (by decide) (by kernel_rfl);exact e) ?_
      subst eo
      intro E u x hE hd
      have e84:u 5 = (.agg #[.int .i64 1,.int .i64 0]):=hd 5 (by decide) (by kernel_rfl)
      have a84:=(hE.mine 84 5 (by kernel_rfl) (show 84 < 167 by decide)).trans e84
      have e85:u 6 = (.agg #[.int .i64 3,.int .i64 9]):=hd 6 (by decide) (by kernel_rfl)
      have a85:=(hE.mine 85 6 (by kernel_rfl) (show 85 < 167 by decide)).trans e85
      have hk:=hE.const
      have hfn:=hE.fn
      have hc:=Past.cell x
      clear hE hd
      simp [go_sem,gives,nthR,a84,a85]
      exact ⟨by (repeat (first | exact Below.refl _ _ | assumption | refine balloc ?_ _ | refine below_drewN ?_ _ | refine bstep (by assumption) ?_ | refine bstep (Past.prop _) ?_ | refine Below.setCell ?_ (by first | exact Nat.le_refl _ | (simp;done) | (simp;omega)) _)),⟨_,rfl,by simpa using x.2.size,Blk.made _ _ _⟩⟩
    | 8, _ =>
      have eo:=Option.some.inj ho
      clear ho
      have hg:o.guard = some (3,true):=by rw [← eo]
      refine jstep_guard (o:=o) 3 82 true hg (by kernel_rfl) (by kernel_rfl) (show 82 < 167 by decide) (fun u x hd => by have e:u 3 = .bool true:=hd 3 (by decide) (by kernel_rfl);exact e) ?_
      subst eo
      intro E u x hE hd
      have e83:u 4 = (.agg #[.int .i64 0,.int .i64 100,.slice (some ⟨b,0,none⟩) 5 5]):=hd 4 (by decide) (by kernel_rfl)
      have a83:=(hE.mine 83 4 (by kernel_rfl) (show 83 < 167 by decide)).trans e83
      obtain ⟨q86,e86,l86,B86⟩:sliR w8y.heap.size 2 #[.int .i64 1,.int .i64 0,.int .i64 3,.int .i64 9] 45 (u 7) x.1:=hd 7 (by decide) (by kernel_rfl)
      have a86:=(hE.mine 86 7 (by kernel_rfl) (show 86 < 167 by decide)).trans e86
      have hk:=hE.const
      have hfn:=hE.fn
      have hc:=Past.cell x
      clear hE hd
      simp [go_sem,gives,nthR,detR,hfn,a83,a86]
      exact h10_sat [(1,0),(3,9)] 2 false w10_nine (by rw [s10_nine];rfl) rfl (by decide) _ _ _ _ (HX.out.past x.2).T (argVs_2 B86)
    | 9, _ =>
      have eo:=Option.some.inj ho
      clear ho
      have hg:o.guard = some (3,true):=by rw [← eo]
      refine jstep_guard (o:=o) 3 82 true hg (by kernel_rfl) (by kernel_rfl) (show 82 < 167 by decide) (fun u x hd => by have e:u 3 = .bool true:=hd 3 (by decide) (by kernel_rfl);exact e) ?_
      subst eo
      intro E u x hE hd
      have e87:u 8 = (.bool false):=hd 8 (by decide) (by kernel_rfl)
      have a87:=(hE.mine 87 8 (by kernel_rfl) (show 87 < 167 by decide)).trans e87
      have hk:=hE.const
      have hfn:=hE.fn
      have hc:=Past.cell x
      clear hE hd
      simp [go_sem,gives,nthR,detR,Below.refl,a87]
    | 10, _ =>
      have eo:=Option.some.inj ho
      clear ho
      have hg:o.guard = none:=by rw [← eo]
      refine jstep_ev hg ?_
      subst eo
      intro E u x hE hd
      have e82:u 3 = (.bool true):=hd 3 (by decide) (by kernel_rfl)
      have a82:=(hE.mine 82 3 (by kernel_rfl) (show 82 < 167 by decide)).trans e82
      have e88:u 9 = (.bool true):=hd 9 (by decide) (by kernel_rfl)
      have a88:=(hE.mine 88 9 (by kernel_rfl) (show 88 < 167 by decide)).trans e88
      have hk:=hE.const
      have hfn:=hE.fn
      have hc:=Past.cell x
      clear hE hd
      simp [go_sem,gives,nthR,detR,Below.refl,hk,a82,a88]
    | 11, _ =>
      have eo:=Option.some.inj ho
      clear ho
      have hg:o.guard = none:=by rw [← eo]
      refine jstep_ev hg ?_
      subst eo
      intro E u x hE hd
      have e89:u 10 = (.bool true):=hd 10 (by decide) (by kernel_rfl)
      have a89:=(hE.mine 89 10 (by kernel_rfl) (show 89 < 167 by decide)).trans e89
      have hk:=hE.const
      have hfn:=hE.fn
      have hc:=Past.cell x
      clear hE hd
      simp [go_sem,gives,nthR,detR,Below.refl,a89]
    | 12, _ =>
      have eo:=Option.some.inj ho
      clear ho
      have hg:o.guard = some (11,true):=by rw [← eo]
      refine jstep_guard (o:=o) 11 90 true hg (by kernel_rfl) (by kernel_rfl) (show 90 < 167 by decide) (fun u x hd => by have e:u 11 = .bool true:=hd 11 (by decide) (by kernel_rfl);exact e) ?_
      subst eo
      intro E u x hE hd
      have a1:E (.tmp 1) = (.pointer (some ⟨p,0,none⟩)):=(hE.rest 1 (by kernel_rfl)).trans rfl
      have hk:=hE.const
      have hfn:=hE.fn
      have hc:=Past.cell x
      clear hE hd
      simp [go_sem,gives,nthR,detR,Below.refl,hc,a1,k0,k1,k2,kz]
    | 13, _ =>
      have eo:=Option.some.inj ho
      clear ho
      have hg:o.guard = some (11,true):=by rw [← eo]
      refine jstep_guard (o:=o) 11 90 true hg (by kernel_rfl) (by kernel_rfl) (show 90 < 167 by decide) (fun u x hd => by have e:u 11 = .bool true:=hd 11 (by decide) (by kernel_rfl);exact e) ?_
      subst eo
      intro E u x hE hd
      have hk:=hE.const
      have hfn:=hE.fn
      have hc:=Past.cell x
      clear hE hd
      simp [go_sem,gives,nthR,detR,Below.refl,hk]
    | 14, _ =>
      have eo:=Option.some.inj ho
      clear ho
      have hg:o.guard = some (11,true):=by rw [← eo]
      refine jstep_guard (o:=o) 11 90 true hg (by kernel_rfl) (by kernel_rfl) (show 90 < 167 by decide) (fun u x hd => by have e:u 11 = .bool true:=hd 11 (by decide) (by kernel_rfl);exact e) ?_
      subst eo
      intro E u x hE hd
      have hk:=hE.const
      have hfn:=hE.fn
      have hc:=Past.cell x
      clear hE hd
      simp [go_sem,gives,nthR,detR,Below.refl,hk]
    | 15, _ =>
      have eo:=Option.some.inj ho
      clear ho
      have hg:o.guard = some (11,true):=by rw [← eo]
      refine jstep_guard (o:=o) 11 90 true hg (by kernel_rfl) (by kernel_rfl) (show 90 < 167 by decide) (fun u x hd => by have e:u 11 = .bool true:=hd 11 (by decide) (by kernel_rfl);exact e) ?_
      subst eo
      intro E u x hE hd
      have hk:=hE.const
      have hfn:=hE.fn
      have hc:=Past.cell x
      clear hE hd
      simp [go_sem,gives,nthR,detR,Below.refl,hk]
    | 16, _ =>
      have eo:=Option.some.inj ho
      clear ho
      have hg:o.guard = some (11,true):=by rw [← eo]
      refine jstep_guard (o:=o) 11 90 true hg (by kernel_rfl) (by kernel_rfl) (show 90 < 167 by decide) (fun u x hd => by have e:u 11 = .bool true:=hd 11 (by decide) (by kernel_rfl);exact e) ?_
      subst eo
      intro E u x hE hd
      have e92:u 13 = (.agg #[.int .i64 1,.int .i64 0]):=hd 13 (by decide) (by kernel_rfl)
      have a92:=(hE.mine 92 13 (by kernel_rfl) (show 92 < 167 by decide)).trans e92
      have e93:u 14 = (.agg #[.int .i64 3,.int .i64 10]):=hd 14 (by decide) (by kernel_rfl)
      have a93:=(hE.mine 93 14 (by kernel_rfl) (show 93 < 167 by decide)).trans e93
      have e94:u 15 = (.agg #[.int .i64 4,.int .i64 20]):=hd 15 (by decide) (by kernel_rfl)
      have a94:=(hE.mine 94 15 (by kernel_rfl) (show 94 < 167 by decide)).trans e94
      have hk:=hE.const
      have hfn:=hE.fn
      have hc:=Past.cell x
      clear hE hd
      simp [go_sem,gives,nthR,a92,a93,a94]
      exact ⟨by (repeat (first | exact Below.refl _ _ | assumption | refine balloc ?_ _ | refine below_drewN ?_ _ | refine bstep (by assumption) ?_ | refine bstep (Past.prop _) ?_ | refine Below.setCell ?_ (by first | exact Nat.le_refl _ | (simp;done) | (simp;omega)) _)),⟨_,rfl,by simpa using x.2.size,Blk.made _ _ _⟩⟩
    | 17, _ =>
      have eo:=Option.some.inj ho
      clear ho
      have hg:o.guard = some (11,true):=by rw [← eo]
      refine jstep_guard (o:=o) 11 90 true hg (by kernel_rfl) (by kernel_rfl) (show 90 < 167 by decide) (fun u x hd => by have e:u 11 = .bool true:=hd 11 (by decide) (by kernel_rfl);exact e) ?_
      subst eo
      intro E u x hE hd
      have e91:u 12 = (.agg #[.int .i64 0,.int .i64 100,.slice (some ⟨b,0,none⟩) 5 5]):=hd 12 (by decide) (by kernel_rfl)
      have a91:=(hE.mine 91 12 (by kernel_rfl) (show 91 < 167 by decide)).trans e91
      obtain ⟨q95,e95,l95,B95⟩:sliR w8y.heap.size 3 #[.int .i64 1,.int .i64 0,.int .i64 3,.int .i64 10,.int .i64 4,.int .i64 20] 45 (u 16) x.1:=hd 16 (by decide) (by kernel_rfl)
      have a95:=(hE.mine 95 16 (by kernel_rfl) (show 95 < 167 by decide)).trans e95
      have hk:=hE.const
      have hfn:=hE.fn
      have hc:=Past.cell x
      clear hE hd
      simp [go_sem,gives,nthR,detR,hfn,a91,a95]
      exact h10_sat [(1,0),(3,10),(4,20)] 3 false w10_both (by rw [s10_both];rfl) rfl (by decide) _ _ _ _ (HX.out.past x.2).T (argVs_3 B95)
    | 18, _ =>
      have eo:=Option.some.inj ho
      clear ho
      have hg:o.guard = some (11,true):=by rw [← eo]
      refine jstep_guard (o:=o) 11 90 true hg (by kernel_rfl) (by kernel_rfl) (show 90 < 167 by decide) (fun u x hd => by have e:u 11 = .bool true:=hd 11 (by decide) (by kernel_rfl);exact e) ?_
      subst eo
      intro E u x hE hd
      have e96:u 17 = (.bool false):=hd 17 (by decide) (by kernel_rfl)
      have a96:=(hE.mine 96 17 (by kernel_rfl) (show 96 < 167 by decide)).trans e96
      have hk:=hE.const
      have hfn:=hE.fn
      have hc:=Past.cell x
      clear hE hd
      simp [go_sem,gives,nthR,detR,Below.refl,a96]
    | 19, _ =>
      have eo:=Option.some.inj ho
      clear ho
      have hg:o.guard = none:=by rw [← eo]
      refine jstep_ev hg ?_
      subst eo
      intro E u x hE hd
      have e90:u 11 = (.bool true):=hd 11 (by decide) (by kernel_rfl)
      have a90:=(hE.mine 90 11 (by kernel_rfl) (show 90 < 167 by decide)).trans e90
      have e97:u 18 = (.bool true):=hd 18 (by decide) (by kernel_rfl)
      have a97:=(hE.mine 97 18 (by kernel_rfl) (show 97 < 167 by decide)).trans e97
      have hk:=hE.const
      have hfn:=hE.fn
      have hc:=Past.cell x
      clear hE hd
      simp [go_sem,gives,nthR,detR,Below.refl,hk,a90,a97]
    | 20, _ =>
      have eo:=Option.some.inj ho
      clear ho
      have hg:o.guard = none:=by rw [← eo]
      refine jstep_ev hg ?_
      subst eo
      intro E u x hE hd
      have e98:u 19 = (.bool true):=hd 19 (by decide) (by kernel_rfl)
      have a98:=(hE.mine 98 19 (by kernel_rfl) (show 98 < 167 by decide)).trans e98
      have hk:=hE.const
      have hfn:=hE.fn
      have hc:=Past.cell x
      clear hE hd
      simp [go_sem,gives,nthR,detR,Below.refl,a98]
    | 21, _ =>
      have eo:=Option.some.inj ho
      clear ho
      have hg:o.guard = some (20,true):=by rw [← eo]
      refine jstep_guard (o:=o) 20 99 true hg (by kernel_rfl) (by kernel_rfl) (show 99 < 167 by decide) (fun u x hd => by have e:u 20 = .bool true:=hd 20 (by decide) (by kernel_rfl);exact e) ?_
      subst eo
      intro E u x hE hd
      have a1:E (.tmp 1) = (.pointer (some ⟨p,0,none⟩)):=(hE.rest 1 (by kernel_rfl)).trans rfl
      have hk:=hE.const
      have hfn:=hE.fn
      have hc:=Past.cell x
      clear hE hd
      simp [go_sem,gives,nthR,detR,Below.refl,hc,a1,k0,k1,k2,kz]
    | 22, _ =>
      have eo:=Option.some.inj ho
      clear ho
      have hg:o.guard = some (20,true):=by rw [← eo]
      refine jstep_guard (o:=o) 20 99 true hg (by kernel_rfl) (by kernel_rfl) (show 99 < 167 by decide) (fun u x hd => by have e:u 20 = .bool true:=hd 20 (by decide) (by kernel_rfl);exact e) ?_
      subst eo
      intro E u x hE hd
      have a2:E (.tmp 2) = (.slice (some ⟨p + 1,0,none⟩) 2 2):=(hE.rest 2 (by kernel_rfl)).trans rfl
      have hk:=hE.const
      have hfn:=hE.fn
      have hc:=Past.cell x
      clear hE hd
      simp [go_sem,gives,nthR,detR,Below.refl,a2]
    | 23, _ =>
      have eo:=Option.some.inj ho
      clear ho
      have hg:o.guard = some (20,true):=by rw [← eo]
      refine jstep_guard (o:=o) 20 99 true hg (by kernel_rfl) (by kernel_rfl) (show 99 < 167 by decide) (fun u x hd => by have e:u 20 = .bool true:=hd 20 (by decide) (by kernel_rfl);exact e) ?_
      subst eo
      intro E u x hE hd
      have e101:u 22 = (.slice (some ⟨p + 1,0,none⟩) 2 2):=hd 22 (by decide) (by kernel_rfl)
      have a101:=(hE.mine 101 22 (by kernel_rfl) (show 101 < 167 by decide)).trans e101
      have hk:=hE.const
      have hfn:=hE.fn
      have hc:=Past.cell x
      clear hE hd
      simp [go_sem,gives,nthR,detR,Below.refl,hk,a101]
    | 24, _ =>
      have eo:=Option.some.inj ho
      clear ho
      have hg:o.guard = some (20,true):=by rw [← eo]
      refine jstep_guard (o:=o) 20 99 true hg (by kernel_rfl) (by kernel_rfl) (show 99 < 167 by decide) (fun u x hd => by have e:u 20 = .bool true:=hd 20 (by decide) (by kernel_rfl);exact e) ?_
      subst eo
      intro E u x hE hd
      have e100:u 21 = (.agg #[.int .i64 0,.int .i64 100,.slice (some ⟨b,0,none⟩) 5 5]):=hd 21 (by decide) (by kernel_rfl)
      have a100:=(hE.mine 100 21 (by kernel_rfl) (show 100 < 167 by decide)).trans e100
      have e102:u 23 = (.slice (some ⟨p + 1,0,none⟩) 1 2):=hd 23 (by decide) (by kernel_rfl)
      have a102:=(hE.mine 102 23 (by kernel_rfl) (show 102 < 167 by decide)).trans e102
      have hk:=hE.const
      have hfn:=hE.fn
      have hc:=Past.cell x
      clear hE hd
      simp [go_sem,gives,nthR,detR,hfn,a100,a102]
      exact h10_sat [(1,0)] 1 false w10_one (by rw [s10_one];rfl) rfl (by decide) _ _ _ _ (HX.out.past x.2).T (HX.out.past x.2).one
    | 25, _ =>
      have eo:=Option.some.inj ho
      clear ho
      have hg:o.guard = some (20,true):=by rw [← eo]
      refine jstep_guard (o:=o) 20 99 true hg (by kernel_rfl) (by kernel_rfl) (show 99 < 167 by decide) (fun u x hd => by have e:u 20 = .bool true:=hd 20 (by decide) (by kernel_rfl);exact e) ?_
      subst eo
      intro E u x hE hd
      have e103:u 24 = (.bool false):=hd 24 (by decide) (by kernel_rfl)
      have a103:=(hE.mine 103 24 (by kernel_rfl) (show 103 < 167 by decide)).trans e103
      have hk:=hE.const
      have hfn:=hE.fn
      have hc:=Past.cell x
      clear hE hd
      simp [go_sem,gives,nthR,detR,Below.refl,a103]
    | 26, _ =>
      have eo:=Option.some.inj ho
      clear ho
      have hg:o.guard = none:=by rw [← eo]
      refine jstep_ev hg ?_
      subst eo
      intro E u x hE hd
      have e99:u 20 = (.bool true):=hd 20 (by decide) (by kernel_rfl)
      have a99:=(hE.mine 99 20 (by kernel_rfl) (show 99 < 167 by decide)).trans e99
      have e104:u 25 = (.bool true):=hd 25 (by decide) (by kernel_rfl)
      have a104:=(hE.mine 104 25 (by kernel_rfl) (show 104 < 167 by decide)).trans e104
      have hk:=hE.const
      have hfn:=hE.fn
      have hc:=Past.cell x
      clear hE hd
      simp [go_sem,gives,nthR,detR,Below.refl,hk,a99,a104]
    | 27, _ =>
      have eo:=Option.some.inj ho
      clear ho
      have hg:o.guard = none:=by rw [← eo]
      refine jstep_ev hg ?_
      subst eo
      intro E u x hE hd
      have e105:u 26 = (.bool true):=hd 26 (by decide) (by kernel_rfl)
      have a105:=(hE.mine 105 26 (by kernel_rfl) (show 105 < 167 by decide)).trans e105
      have hk:=hE.const
      have hfn:=hE.fn
      have hc:=Past.cell x
      clear hE hd
      simp [go_sem,gives,nthR,detR,Below.refl,a105]
    | 28, _ =>
      have eo:=Option.some.inj ho
      clear ho
      have hg:o.guard = some (27,true):=by rw [← eo]
      refine jstep_guard (o:=o) 27 106 true hg (by kernel_rfl) (by kernel_rfl) (show 106 < 167 by decide) (fun u x hd => by have e:u 27 = .bool true:=hd 27 (by decide) (by kernel_rfl);exact e) ?_
      subst eo
      intro E u x hE hd
      have a1:E (.tmp 1) = (.pointer (some ⟨p,0,none⟩)):=(hE.rest 1 (by kernel_rfl)).trans rfl
      have hk:=hE.const
      have hfn:=hE.fn
      have hc:=Past.cell x
      clear hE hd
      simp [go_sem,gives,nthR,detR,Below.refl,hc,a1,k0,k1,k2,kz]
    | 29, _ =>
      have eo:=Option.some.inj ho
      clear ho
      have hg:o.guard = some (27,true):=by rw [← eo]
      refine jstep_guard (o:=o) 27 106 true hg (by kernel_rfl) (by kernel_rfl) (show 106 < 167 by decide) (fun u x hd => by have e:u 27 = .bool true:=hd 27 (by decide) (by kernel_rfl);exact e) ?_
      subst eo
      intro E u x hE hd
      have a3:E (.tmp 3) = (.slice (some ⟨p + 1 + 1,0,none⟩) 2 2):=(hE.rest 3 (by kernel_rfl)).trans rfl
      have hk:=hE.const
      have hfn:=hE.fn
      have hc:=Past.cell x
      clear hE hd
      simp [go_sem,gives,nthR,detR,Below.refl,a3]
    | 30, _ =>
      have eo:=Option.some.inj ho
      clear ho
      have hg:o.guard = some (27,true):=by rw [← eo]
      refine jstep_guard (o:=o) 27 106 true hg (by kernel_rfl) (by kernel_rfl) (show 106 < 167 by decide) (fun u x hd => by have e:u 27 = .bool true:=hd 27 (by decide) (by kernel_rfl);exact e) ?_
      subst eo
      intro E u x hE hd
      have e107:u 28 = (.agg #[.int .i64 0,.int .i64 100,.slice (some ⟨b,0,none⟩) 5 5]):=hd 28 (by decide) (by kernel_rfl)
      have a107:=(hE.mine 107 28 (by kernel_rfl) (show 107 < 167 by decide)).trans e107
      have e108:u 29 = (.slice (some ⟨p + 1 + 1,0,none⟩) 2 2):=hd 29 (by decide) (by kernel_rfl)
      have a108:=(hE.mine 108 29 (by kernel_rfl) (show 108 < 167 by decide)).trans e108
      have hk:=hE.const
      have hfn:=hE.fn
      have hc:=Past.cell x
      clear hE hd
      simp [go_sem,gives,nthR,detR,hfn,a107,a108]
      exact h10_sat late10 2 false w10_late (by rw [s10_late.1,s10_late.2.1,s10_late.2.2.1];rfl) rfl (by decide) _ _ _ _ (HX.out.past x.2).T (HX.out.past x.2).L
    | 31, _ =>
      have eo:=Option.some.inj ho
      clear ho
      have hg:o.guard = some (27,true):=by rw [← eo]
      refine jstep_guard (o:=o) 27 106 true hg (by kernel_rfl) (by kernel_rfl) (show 106 < 167 by decide) (fun u x hd => by have e:u 27 = .bool true:=hd 27 (by decide) (by kernel_rfl);exact e) ?_
      subst eo
      intro E u x hE hd
      have e109:u 30 = (.bool false):=hd 30 (by decide) (by kernel_rfl)
      have a109:=(hE.mine 109 30 (by kernel_rfl) (show 109 < 167 by decide)).trans e109
      have hk:=hE.const
      have hfn:=hE.fn
      have hc:=Past.cell x
      clear hE hd
      simp [go_sem,gives,nthR,detR,Below.refl,a109]
    | 32, _ =>
      have eo:=Option.some.inj ho
      clear ho
      have hg:o.guard = none:=by rw [← eo]
      refine jstep_ev hg ?_
      subst eo
      intro E u x hE hd
      have e106:u 27 = (.bool true):=hd 27 (by decide) (by kernel_rfl)
      have a106:=(hE.mine 106 27 (by kernel_rfl) (show 106 < 167 by decide)).trans e106
      have e110:u 31 = (.bool true):=hd 31 (by decide) (by kernel_rfl)
      have a110:=(hE.mine 110 31 (by kernel_rfl) (show 110 < 167 by decide)).trans e110
      have hk:=hE.const
      have hfn:=hE.fn
      have hc:=Past.cell x
      clear hE hd
      simp [go_sem,gives,nthR,detR,Below.refl,hk,a106,a110]
    | 33, _ =>
      have eo:=Option.some.inj ho
      clear ho
      have hg:o.guard = none:=by rw [← eo]
      refine jstep_ev hg ?_
      subst eo
      intro E u x hE hd
      have e111:u 32 = (.bool true):=hd 32 (by decide) (by kernel_rfl)
      have a111:=(hE.mine 111 32 (by kernel_rfl) (show 111 < 167 by decide)).trans e111
      have hk:=hE.const
      have hfn:=hE.fn
      have hc:=Past.cell x
      clear hE hd
      simp [go_sem,gives,nthR,detR,Below.refl,a111]
    | 34, _ =>
      have eo:=Option.some.inj ho
      clear ho
      have hg:o.guard = some (33,true):=by rw [← eo]
      refine jstep_guard (o:=o) 33 112 true hg (by kernel_rfl) (by kernel_rfl) (show 112 < 167 by decide) (fun u x hd => by have e:u 33 = .bool true:=hd 33 (by decide) (by kernel_rfl);exact e) ?_
      subst eo
      intro E u x hE hd
      have a6:E (.tmp 6) = (.bool true):=(hE.rest 6 (by kernel_rfl)).trans rfl
      have hk:=hE.const
      have hfn:=hE.fn
      have hc:=Past.cell x
      clear hE hd
      simp [go_sem,gives,nthR,detR,Below.refl,a6]
    | 35, _ =>
      have eo:=Option.some.inj ho
      clear ho
      have hg:o.guard = none:=by rw [← eo]
      refine jstep_ev hg ?_
      subst eo
      intro E u x hE hd
      have e112:u 33 = (.bool true):=hd 33 (by decide) (by kernel_rfl)
      have a112:=(hE.mine 112 33 (by kernel_rfl) (show 112 < 167 by decide)).trans e112
      have e113:u 34 = (.bool true):=hd 34 (by decide) (by kernel_rfl)
      have a113:=(hE.mine 113 34 (by kernel_rfl) (show 113 < 167 by decide)).trans e113
      have hk:=hE.const
      have hfn:=hE.fn
      have hc:=Past.cell x
      clear hE hd
      simp [go_sem,gives,nthR,detR,Below.refl,hk,a112,a113]
    | 36, _ =>
      have eo:=Option.some.inj ho
      clear ho
      have hg:o.guard = none:=by rw [← eo]
      refine jstep_ev hg ?_
      subst eo
      intro E u x hE hd
      have e114:u 35 = (.bool true):=hd 35 (by decide) (by kernel_rfl)
      have a114:=(hE.mine 114 35 (by kernel_rfl) (show 114 < 167 by decide)).trans e114
      have hk:=hE.const
      have hfn:=hE.fn
      have hc:=Past.cell x
      clear hE hd
      simp [go_sem,gives,nthR,detR,Below.refl,a114]
    | 37, _ =>
      have eo:=Option.some.inj ho
      clear ho
      have hg:o.guard = some (36,true):=by rw [← eo]
      refine jstep_guard (o:=o) 36 115 true hg (by kernel_rfl) (by kernel_rfl) (show 115 < 167 by decide) (fun u x hd => by have e:u 36 = .bool true:=hd 36 (by decide) (by kernel_rfl);exact e) ?_
      subst eo
      intro E u x hE hd
      have a7:E (.tmp 7) = (.int .i64 0):=(hE.rest 7 (by kernel_rfl)).trans rfl
      have hk:=hE.const
      have hfn:=hE.fn
      have hc:=Past.cell x
      clear hE hd
      simp [go_sem,gives,nthR,detR,Below.refl,a7]
    | 38, _ =>
      have eo:=Option.some.inj ho
      clear ho
      have hg:o.guard = some (36,true):=by rw [← eo]
      refine jstep_guard (o:=o) 36 115 true hg (by kernel_rfl) (by kernel_rfl) (show 115 < 167 by decide) (fun u x hd => by have e:u 36 = .bool true:=hd 36 (by decide) (by kernel_rfl);exact e) ?_
      subst eo
      intro E u x hE hd
      have e116:u 37 = (.int .i64 0):=hd 37 (by decide) (by kernel_rfl)
      have a116:=(hE.mine 116 37 (by kernel_rfl) (show 116 < 167 by decide)).trans e116
      have hk:=hE.const
      have hfn:=hE.fn
      have hc:=Past.cell x
      clear hE hd
      simp [go_sem,gives,nthR,detR,Below.refl,hk,a116]
    | 39, _ =>
      have eo:=Option.some.inj ho
      clear ho
      have hg:o.guard = none:=by rw [← eo]
      refine jstep_ev hg ?_
      subst eo
      intro E u x hE hd
      have e115:u 36 = (.bool true):=hd 36 (by decide) (by kernel_rfl)
      have a115:=(hE.mine 115 36 (by kernel_rfl) (show 115 < 167 by decide)).trans e115
      have e117:u 38 = (.bool true):=hd 38 (by decide) (by kernel_rfl)
      have a117:=(hE.mine 117 38 (by kernel_rfl) (show 117 < 167 by decide)).trans e117
      have hk:=hE.const
      have hfn:=hE.fn
      have hc:=Past.cell x
      clear hE hd
      simp [go_sem,gives,nthR,detR,Below.refl,hk,a115,a117]
    | 40, _ =>
      have eo:=Option.some.inj ho
      clear ho
      have hg:o.guard = none:=by rw [← eo]
      refine jstep_ev hg ?_
      subst eo
      intro E u x hE hd
      have e118:u 39 = (.bool true):=hd 39 (by decide) (by kernel_rfl)
      have a118:=(hE.mine 118 39 (by kernel_rfl) (show 118 < 167 by decide)).trans e118
      have hk:=hE.const
      have hfn:=hE.fn
      have hc:=Past.cell x
      clear hE hd
      simp [go_sem,gives,nthR,detR,Below.refl,a118]
    | 41, _ =>
      have eo:=Option.some.inj ho
      clear ho
      have hg:o.guard = some (40,true):=by rw [← eo]
      refine jstep_guard (o:=o) 40 119 true hg (by kernel_rfl) (by kernel_rfl) (show 119 < 167 by decide) (fun u x hd => by have e:u 40 = .bool true:=hd 40 (by decide) (by kernel_rfl);exact e) ?_
      subst eo
      intro E u x hE hd
      have a4:E (.tmp 4) = (.slice fa 3 fc):=(hE.rest 4 (by kernel_rfl)).trans rfl
      have hk:=hE.const
      have hfn:=hE.fn
      have hc:=Past.cell x
      clear hE hd
      simp [go_sem,gives,nthR,detR,Below.refl,a4]
    | 42, _ =>
      have eo:=Option.some.inj ho
      clear ho
      have hg:o.guard = some (40,true):=by rw [← eo]
      refine jstep_guard (o:=o) 40 119 true hg (by kernel_rfl) (by kernel_rfl) (show 119 < 167 by decide) (fun u x hd => by have e:u 40 = .bool true:=hd 40 (by decide) (by kernel_rfl);exact e) ?_
      subst eo
      intro E u x hE hd
      have a20:E (.tmp 20) = (.slice (some ⟨qb,0,none⟩) 3 3):=(hE.rest 20 (by kernel_rfl)).trans rfl
      have hk:=hE.const
      have hfn:=hE.fn
      have hc:=Past.cell x
      clear hE hd
      simp [go_sem,gives,nthR,detR,Below.refl,a20]
    | 43, _ =>
      have eo:=Option.some.inj ho
      clear ho
      have hg:o.guard = some (40,true):=by rw [← eo]
      refine jstep_guard (o:=o) 40 119 true hg (by kernel_rfl) (by kernel_rfl) (show 119 < 167 by decide) (fun u x hd => by have e:u 40 = .bool true:=hd 40 (by decide) (by kernel_rfl);exact e) ?_
      subst eo
      intro E u x hE hd
      have e120:u 41 = (.slice fa 3 fc):=hd 41 (by decide) (by kernel_rfl)
      have a120:=(hE.mine 120 41 (by kernel_rfl) (show 120 < 167 by decide)).trans e120
      have e121:u 42 = (.slice (some ⟨qb,0,none⟩) 3 3):=hd 42 (by decide) (by kernel_rfl)
      have a121:=(hE.mine 121 42 (by kernel_rfl) (show 121 < 167 by decide)).trans e121
      have hk:=hE.const
      have hfn:=hE.fn
      have hc:=Past.cell x
      clear hE hd
      simp [go_sem,gives,nthR,detR,hfn,a120,a121]
      exact rsame_10 (HF.out.past x.2) (HWT.out.past x.2) (by decide +kernel)
    | 44, _ =>
      have eo:=Option.some.inj ho
      clear ho
      have hg:o.guard = none:=by rw [← eo]
      refine jstep_ev hg ?_
      subst eo
      intro E u x hE hd
      have e119:u 40 = (.bool true):=hd 40 (by decide) (by kernel_rfl)
      have a119:=(hE.mine 119 40 (by kernel_rfl) (show 119 < 167 by decide)).trans e119
      have e122:u 43 = (.bool true):=hd 43 (by decide) (by kernel_rfl)
      have a122:=(hE.mine 122 43 (by kernel_rfl) (show 122 < 167 by decide)).trans e122
      have hk:=hE.const
      have hfn:=hE.fn
      have hc:=Past.cell x
      clear hE hd
      simp [go_sem,gives,nthR,detR,Below.refl,hk,a119,a122]
    | 45, _ =>
      have eo:=Option.some.inj ho
      clear ho
      have hg:o.guard = none:=by rw [← eo]
      refine jstep_ev hg ?_
      subst eo
      intro E u x hE hd
      have e123:u 44 = (.bool true):=hd 44 (by decide) (by kernel_rfl)
      have a123:=(hE.mine 123 44 (by kernel_rfl) (show 123 < 167 by decide)).trans e123
      have hk:=hE.const
      have hfn:=hE.fn
      have hc:=Past.cell x
      clear hE hd
      simp [go_sem,gives,nthR,detR,Below.refl,a123]
    | 46, _ =>
      have eo:=Option.some.inj ho
      clear ho
      have hg:o.guard = some (45,true):=by rw [← eo]
      refine jstep_guard (o:=o) 45 124 true hg (by kernel_rfl) (by kernel_rfl) (show 124 < 167 by decide) (fun u x hd => by have e:u 45 = .bool true:=hd 45 (by decide) (by kernel_rfl);exact e) ?_
      subst eo
      intro E u x hE hd
      have a5:E (.tmp 5) = (.int .i64 0):=(hE.rest 5 (by kernel_rfl)).trans rfl
      have hk:=hE.const
      have hfn:=hE.fn
      have hc:=Past.cell x
      clear hE hd
      simp [go_sem,gives,nthR,detR,Below.refl,a5]
    | 47, _ =>
      have eo:=Option.some.inj ho
      clear ho
      have hg:o.guard = some (45,true):=by rw [← eo]
      refine jstep_guard (o:=o) 45 124 true hg (by kernel_rfl) (by kernel_rfl) (show 124 < 167 by decide) (fun u x hd => by have e:u 45 = .bool true:=hd 45 (by decide) (by kernel_rfl);exact e) ?_
      subst eo
      intro E u x hE hd
      have e125:u 46 = (.int .i64 0):=hd 46 (by decide) (by kernel_rfl)
      have a125:=(hE.mine 125 46 (by kernel_rfl) (show 125 < 167 by decide)).trans e125
      have hk:=hE.const
      have hfn:=hE.fn
      have hc:=Past.cell x
      clear hE hd
      simp [go_sem,gives,nthR,detR,Below.refl,hk,a125]
    | 48, _ =>
      have eo:=Option.some.inj ho
      clear ho
      have hg:o.guard = none:=by rw [← eo]
      refine jstep_ev hg ?_
      subst eo
      intro E u x hE hd
      have e124:u 45 = (.bool true):=hd 45 (by decide) (by kernel_rfl)
      have a124:=(hE.mine 124 45 (by kernel_rfl) (show 124 < 167 by decide)).trans e124
      have e126:u 47 = (.bool true):=hd 47 (by decide) (by kernel_rfl)
      have a126:=(hE.mine 126 47 (by kernel_rfl) (show 126 < 167 by decide)).trans e126
      have hk:=hE.const
      have hfn:=hE.fn
      have hc:=Past.cell x
      clear hE hd
      simp [go_sem,gives,nthR,detR,Below.refl,hk,a124,a126]
    | 49, _ =>
      have eo:=Option.some.inj ho
      clear ho
      have hg:o.guard = none:=by rw [← eo]
      refine jstep_ev hg ?_
      subst eo
      intro E u x hE hd
      have e127:u 48 = (.bool true):=hd 48 (by decide) (by kernel_rfl)
      have a127:=(hE.mine 127 48 (by kernel_rfl) (show 127 < 167 by decide)).trans e127
      have hk:=hE.const
      have hfn:=hE.fn
      have hc:=Past.cell x
      clear hE hd
      simp [go_sem,gives,nthR,detR,Below.refl,a127]
    | 50, _ =>
      have eo:=Option.some.inj ho
      clear ho
      have hg:o.guard = some (49,true):=by rw [← eo]
      refine jstep_guard (o:=o) 49 128 true hg (by kernel_rfl) (by kernel_rfl) (show 128 < 167 by decide) (fun u x hd => by have e:u 49 = .bool true:=hd 49 (by decide) (by kernel_rfl);exact e) ?_
      subst eo
      intro E u x hE hd
      have a8:E (.tmp 8) = (.int .i64 15):=(hE.rest 8 (by kernel_rfl)).trans rfl
      have hk:=hE.const
      have hfn:=hE.fn
      have hc:=Past.cell x
      clear hE hd
      simp [go_sem,gives,nthR,detR,Below.refl,a8]
    | 51, _ =>
      have eo:=Option.some.inj ho
      clear ho
      have hg:o.guard = some (49,true):=by rw [← eo]
      refine jstep_guard (o:=o) 49 128 true hg (by kernel_rfl) (by kernel_rfl) (show 128 < 167 by decide) (fun u x hd => by have e:u 49 = .bool true:=hd 49 (by decide) (by kernel_rfl);exact e) ?_
      subst eo
      intro E u x hE hd
      have e129:u 50 = (.int .i64 15):=hd 50 (by decide) (by kernel_rfl)
      have a129:=(hE.mine 129 50 (by kernel_rfl) (show 129 < 167 by decide)).trans e129
      have hk:=hE.const
      have hfn:=hE.fn
      have hc:=Past.cell x
      clear hE hd
      simp [go_sem,gives,nthR,detR,Below.refl,hk,a129]
    | 52, _ =>
      have eo:=Option.some.inj ho
      clear ho
      have hg:o.guard = none:=by rw [← eo]
      refine jstep_ev hg ?_
      subst eo
      intro E u x hE hd
      have e128:u 49 = (.bool true):=hd 49 (by decide) (by kernel_rfl)
      have a128:=(hE.mine 128 49 (by kernel_rfl) (show 128 < 167 by decide)).trans e128
      have e130:u 51 = (.bool true):=hd 51 (by decide) (by kernel_rfl)
      have a130:=(hE.mine 130 51 (by kernel_rfl) (show 130 < 167 by decide)).trans e130
      have hk:=hE.const
      have hfn:=hE.fn
      have hc:=Past.cell x
      clear hE hd
      simp [go_sem,gives,nthR,detR,Below.refl,hk,a128,a130]
    | 53, _ =>
      have eo:=Option.some.inj ho
      clear ho
      have hg:o.guard = none:=by rw [← eo]
      refine jstep_ev hg ?_
      subst eo
      intro E u x hE hd
      have e131:u 52 = (.bool true):=hd 52 (by decide) (by kernel_rfl)
      have a131:=(hE.mine 131 52 (by kernel_rfl) (show 131 < 167 by decide)).trans e131
      have hk:=hE.const
      have hfn:=hE.fn
      have hc:=Past.cell x
      clear hE hd
      simp [go_sem,gives,nthR,detR,Below.refl,a131]
    | 54, _ =>
      have eo:=Option.some.inj ho
      clear ho
      have hg:o.guard = some (53,true):=by rw [← eo]
      refine jstep_guard (o:=o) 53 132 true hg (by kernel_rfl) (by kernel_rfl) (show 132 < 167 by decide) (fun u x hd => by have e:u 53 = .bool true:=hd 53 (by decide) (by kernel_rfl);exact e) ?_
      subst eo
      intro E u x hE hd
      have a9:E (.tmp 9) = (.int .i64 0):=(hE.rest 9 (by kernel_rfl)).trans rfl
      have hk:=hE.const
      have hfn:=hE.fn
      have hc:=Past.cell x
      clear hE hd
      simp [go_sem,gives,nthR,detR,Below.refl,a9]
    | 55, _ =>
      have eo:=Option.some.inj ho
      clear ho
      have hg:o.guard = some (53,true):=by rw [← eo]
      refine jstep_guard (o:=o) 53 132 true hg (by kernel_rfl) (by kernel_rfl) (show 132 < 167 by decide) (fun u x hd => by have e:u 53 = .bool true:=hd 53 (by decide) (by kernel_rfl);exact e) ?_
      subst eo
      intro E u x hE hd
      have e133:u 54 = (.int .i64 0):=hd 54 (by decide) (by kernel_rfl)
      have a133:=(hE.mine 133 54 (by kernel_rfl) (show 133 < 167 by decide)).trans e133
      have hk:=hE.const
      have hfn:=hE.fn
      have hc:=Past.cell x
      clear hE hd
      simp [go_sem,gives,nthR,detR,Below.refl,hk,a133]
    | 56, _ =>
      have eo:=Option.some.inj ho
      clear ho
      have hg:o.guard = none:=by rw [← eo]
      refine jstep_ev hg ?_
      subst eo
      intro E u x hE hd
      have e132:u 53 = (.bool true):=hd 53 (by decide) (by kernel_rfl)
      have a132:=(hE.mine 132 53 (by kernel_rfl) (show 132 < 167 by decide)).trans e132
      have e134:u 55 = (.bool true):=hd 55 (by decide) (by kernel_rfl)
      have a134:=(hE.mine 134 55 (by kernel_rfl) (show 134 < 167 by decide)).trans e134
      have hk:=hE.const
      have hfn:=hE.fn
      have hc:=Past.cell x
      clear hE hd
      simp [go_sem,gives,nthR,detR,Below.refl,hk,a132,a134]
    | 57, _ =>
      have eo:=Option.some.inj ho
      clear ho
      have hg:o.guard = none:=by rw [← eo]
      refine jstep_ev hg ?_
      subst eo
      intro E u x hE hd
      have e135:u 56 = (.bool true):=hd 56 (by decide) (by kernel_rfl)
      have a135:=(hE.mine 135 56 (by kernel_rfl) (show 135 < 167 by decide)).trans e135
      have hk:=hE.const
      have hfn:=hE.fn
      have hc:=Past.cell x
      clear hE hd
      simp [go_sem,gives,nthR,detR,Below.refl,a135]
    | 58, _ =>
      have eo:=Option.some.inj ho
      clear ho
      have hg:o.guard = some (57,true):=by rw [← eo]
      refine jstep_guard (o:=o) 57 136 true hg (by kernel_rfl) (by kernel_rfl) (show 136 < 167 by decide) (fun u x hd => by have e:u 57 = .bool true:=hd 57 (by decide) (by kernel_rfl);exact e) ?_
      subst eo
      intro E u x hE hd
      have a10:E (.tmp 10) = (.int .i64 5):=(hE.rest 10 (by kernel_rfl)).trans rfl
      have hk:=hE.const
      have hfn:=hE.fn
      have hc:=Past.cell x
      clear hE hd
      simp [go_sem,gives,nthR,detR,Below.refl,a10]
    | 59, _ =>
      have eo:=Option.some.inj ho
      clear ho
      have hg:o.guard = some (57,true):=by rw [← eo]
      refine jstep_guard (o:=o) 57 136 true hg (by kernel_rfl) (by kernel_rfl) (show 136 < 167 by decide) (fun u x hd => by have e:u 57 = .bool true:=hd 57 (by decide) (by kernel_rfl);exact e) ?_
      subst eo
      intro E u x hE hd
      have e137:u 58 = (.int .i64 5):=hd 58 (by decide) (by kernel_rfl)
      have a137:=(hE.mine 137 58 (by kernel_rfl) (show 137 < 167 by decide)).trans e137
      have hk:=hE.const
      have hfn:=hE.fn
      have hc:=Past.cell x
      clear hE hd
      simp [go_sem,gives,nthR,detR,Below.refl,hk,a137]
    | 60, _ =>
      have eo:=Option.some.inj ho
      clear ho
      have hg:o.guard = none:=by rw [← eo]
      refine jstep_ev hg ?_
      subst eo
      intro E u x hE hd
      have e136:u 57 = (.bool true):=hd 57 (by decide) (by kernel_rfl)
      have a136:=(hE.mine 136 57 (by kernel_rfl) (show 136 < 167 by decide)).trans e136
      have e138:u 59 = (.bool true):=hd 59 (by decide) (by kernel_rfl)
      have a138:=(hE.mine 138 59 (by kernel_rfl) (show 138 < 167 by decide)).trans e138
      have hk:=hE.const
      have hfn:=hE.fn
      have hc:=Past.cell x
      clear hE hd
      simp [go_sem,gives,nthR,detR,Below.refl,hk,a136,a138]
    | 61, _ =>
      have eo:=Option.some.inj ho
      clear ho
      have hg:o.guard = none:=by rw [← eo]
      refine jstep_ev hg ?_
      subst eo
      intro E u x hE hd
      have e139:u 60 = (.bool true):=hd 60 (by decide) (by kernel_rfl)
      have a139:=(hE.mine 139 60 (by kernel_rfl) (show 139 < 167 by decide)).trans e139
      have hk:=hE.const
      have hfn:=hE.fn
      have hc:=Past.cell x
      clear hE hd
      simp [go_sem,gives,nthR,detR,Below.refl,a139]
    | 62, _ =>
      have eo:=Option.some.inj ho
      clear ho
      have hg:o.guard = some (61,true):=by rw [← eo]
      refine jstep_guard (o:=o) 61 140 true hg (by kernel_rfl) (by kernel_rfl) (show 140 < 167 by decide) (fun u x hd => by have e:u 61 = .bool true:=hd 61 (by decide) (by kernel_rfl);exact e) ?_
      subst eo
      intro E u x hE hd
      have a11:E (.tmp 11) = (.int .i64 0):=(hE.rest 11 (by kernel_rfl)).trans rfl
      have hk:=hE.const
      have hfn:=hE.fn
      have hc:=Past.cell x
      clear hE hd
      simp [go_sem,gives,nthR,detR,Below.refl,a11]
    | 63, _ =>
      have eo:=Option.some.inj ho
      clear ho
      have hg:o.guard = some (61,true):=by rw [← eo]
      refine jstep_guard (o:=o) 61 140 true hg (by kernel_rfl) (by kernel_rfl) (show 140 < 167 by decide) (fun u x hd => by have e:u 61 = .bool true:=hd 61 (by decide) (by kernel_rfl);exact e) ?_
      subst eo
      intro E u x hE hd
      have e141:u 62 = (.int .i64 0):=hd 62 (by decide) (by kernel_rfl)
      have a141:=(hE.mine 141 62 (by kernel_rfl) (show 141 < 167 by decide)).trans e141
      have hk:=hE.const
      have hfn:=hE.fn
      have hc:=Past.cell x
      clear hE hd
      simp [go_sem,gives,nthR,detR,Below.refl,hk,a141]
    | 64, _ =>
      have eo:=Option.some.inj ho
      clear ho
      have hg:o.guard = none:=by rw [← eo]
      refine jstep_ev hg ?_
      subst eo
      intro E u x hE hd
      have e140:u 61 = (.bool true):=hd 61 (by decide) (by kernel_rfl)
      have a140:=(hE.mine 140 61 (by kernel_rfl) (show 140 < 167 by decide)).trans e140
      have e142:u 63 = (.bool true):=hd 63 (by decide) (by kernel_rfl)
      have a142:=(hE.mine 142 63 (by kernel_rfl) (show 142 < 167 by decide)).trans e142
      have hk:=hE.const
      have hfn:=hE.fn
      have hc:=Past.cell x
      clear hE hd
      simp [go_sem,gives,nthR,detR,Below.refl,hk,a140,a142]
    | 65, _ =>
      have eo:=Option.some.inj ho
      clear ho
      have hg:o.guard = none:=by rw [← eo]
      refine jstep_ev hg ?_
      subst eo
      intro E u x hE hd
      have e143:u 64 = (.bool true):=hd 64 (by decide) (by kernel_rfl)
      have a143:=(hE.mine 143 64 (by kernel_rfl) (show 143 < 167 by decide)).trans e143
      have hk:=hE.const
      have hfn:=hE.fn
      have hc:=Past.cell x
      clear hE hd
      simp [go_sem,gives,nthR,detR,Below.refl,a143]
    | 66, _ =>
      have eo:=Option.some.inj ho
      clear ho
      have hg:o.guard = some (65,true):=by rw [← eo]
      refine jstep_guard (o:=o) 65 144 true hg (by kernel_rfl) (by kernel_rfl) (show 144 < 167 by decide) (fun u x hd => by have e:u 65 = .bool true:=hd 65 (by decide) (by kernel_rfl);exact e) ?_
      subst eo
      intro E u x hE hd
      have a12:E (.tmp 12) = (.int .i64 80):=(hE.rest 12 (by kernel_rfl)).trans rfl
      have hk:=hE.const
      have hfn:=hE.fn
      have hc:=Past.cell x
      clear hE hd
      simp [go_sem,gives,nthR,detR,Below.refl,a12]
    | 67, _ =>
      have eo:=Option.some.inj ho
      clear ho
      have hg:o.guard = some (65,true):=by rw [← eo]
      refine jstep_guard (o:=o) 65 144 true hg (by kernel_rfl) (by kernel_rfl) (show 144 < 167 by decide) (fun u x hd => by have e:u 65 = .bool true:=hd 65 (by decide) (by kernel_rfl);exact e) ?_
      subst eo
      intro E u x hE hd
      have e145:u 66 = (.int .i64 80):=hd 66 (by decide) (by kernel_rfl)
      have a145:=(hE.mine 145 66 (by kernel_rfl) (show 145 < 167 by decide)).trans e145
      have hk:=hE.const
      have hfn:=hE.fn
      have hc:=Past.cell x
      clear hE hd
      simp [go_sem,gives,nthR,detR,Below.refl,hk,a145]
    | 68, _ =>
      have eo:=Option.some.inj ho
      clear ho
      have hg:o.guard = none:=by rw [← eo]
      refine jstep_ev hg ?_
      subst eo
      intro E u x hE hd
      have e144:u 65 = (.bool true):=hd 65 (by decide) (by kernel_rfl)
      have a144:=(hE.mine 144 65 (by kernel_rfl) (show 144 < 167 by decide)).trans e144
      have e146:u 67 = (.bool true):=hd 67 (by decide) (by kernel_rfl)
      have a146:=(hE.mine 146 67 (by kernel_rfl) (show 146 < 167 by decide)).trans e146
      have hk:=hE.const
      have hfn:=hE.fn
      have hc:=Past.cell x
      clear hE hd
      simp [go_sem,gives,nthR,detR,Below.refl,hk,a144,a146]
    | 69, _ =>
      have eo:=Option.some.inj ho
      clear ho
      have hg:o.guard = none:=by rw [← eo]
      refine jstep_ev hg ?_
      subst eo
      intro E u x hE hd
      have e147:u 68 = (.bool true):=hd 68 (by decide) (by kernel_rfl)
      have a147:=(hE.mine 147 68 (by kernel_rfl) (show 147 < 167 by decide)).trans e147
      have hk:=hE.const
      have hfn:=hE.fn
      have hc:=Past.cell x
      clear hE hd
      simp [go_sem,gives,nthR,detR,Below.refl,a147]
    | 70, _ =>
      have eo:=Option.some.inj ho
      clear ho
      have hg:o.guard = some (69,true):=by rw [← eo]
      refine jstep_guard (o:=o) 69 148 true hg (by kernel_rfl) (by kernel_rfl) (show 148 < 167 by decide) (fun u x hd => by have e:u 69 = .bool true:=hd 69 (by decide) (by kernel_rfl);exact e) ?_
      subst eo
      intro E u x hE hd
      have a13:E (.tmp 13) = (.int .i64 110):=(hE.rest 13 (by kernel_rfl)).trans rfl
      have hk:=hE.const
      have hfn:=hE.fn
      have hc:=Past.cell x
      clear hE hd
      simp [go_sem,gives,nthR,detR,Below.refl,a13]
    | 71, _ =>
      have eo:=Option.some.inj ho
      clear ho
      have hg:o.guard = some (69,true):=by rw [← eo]
      refine jstep_guard (o:=o) 69 148 true hg (by kernel_rfl) (by kernel_rfl) (show 148 < 167 by decide) (fun u x hd => by have e:u 69 = .bool true:=hd 69 (by decide) (by kernel_rfl);exact e) ?_
      subst eo
      intro E u x hE hd
      have e149:u 70 = (.int .i64 110):=hd 70 (by decide) (by kernel_rfl)
      have a149:=(hE.mine 149 70 (by kernel_rfl) (show 149 < 167 by decide)).trans e149
      have hk:=hE.const
      have hfn:=hE.fn
      have hc:=Past.cell x
      clear hE hd
      simp [go_sem,gives,nthR,detR,Below.refl,hk,a149]
    | 72, _ =>
      have eo:=Option.some.inj ho
      clear ho
      have hg:o.guard = none:=by rw [← eo]
      refine jstep_ev hg ?_
      subst eo
      intro E u x hE hd
      have e148:u 69 = (.bool true):=hd 69 (by decide) (by kernel_rfl)
      have a148:=(hE.mine 148 69 (by kernel_rfl) (show 148 < 167 by decide)).trans e148
      have e150:u 71 = (.bool true):=hd 71 (by decide) (by kernel_rfl)
      have a150:=(hE.mine 150 71 (by kernel_rfl) (show 150 < 167 by decide)).trans e150
      have hk:=hE.const
      have hfn:=hE.fn
      have hc:=Past.cell x
      clear hE hd
      simp [go_sem,gives,nthR,detR,Below.refl,hk,a148,a150]
    | 73, _ =>
      have eo:=Option.some.inj ho
      clear ho
      have hg:o.guard = none:=by rw [← eo]
      refine jstep_ev hg ?_
      subst eo
      intro E u x hE hd
      have e151:u 72 = (.bool true):=hd 72 (by decide) (by kernel_rfl)
      have a151:=(hE.mine 151 72 (by kernel_rfl) (show 151 < 167 by decide)).trans e151
      have hk:=hE.const
      have hfn:=hE.fn
      have hc:=Past.cell x
      clear hE hd
      simp [go_sem,gives,nthR,detR,Below.refl,a151]
    | 74, _ =>
      have eo:=Option.some.inj ho
      clear ho
      have hg:o.guard = some (73,true):=by rw [← eo]
      refine jstep_guard (o:=o) 73 152 true hg (by kernel_rfl) (by kernel_rfl) (show 152 < 167 by decide) (fun u x hd => by have e:u 73 = .bool true:=hd 73 (by decide) (by kernel_rfl);exact e) ?_
      subst eo
      intro E u x hE hd
      have a14:E (.tmp 14) = (.bool true):=(hE.rest 14 (by kernel_rfl)).trans rfl
      have hk:=hE.const
      have hfn:=hE.fn
      have hc:=Past.cell x
      clear hE hd
      simp [go_sem,gives,nthR,detR,Below.refl,a14]
    | 75, _ =>
      have eo:=Option.some.inj ho
      clear ho
      have hg:o.guard = none:=by rw [← eo]
      refine jstep_ev hg ?_
      subst eo
      intro E u x hE hd
      have e152:u 73 = (.bool true):=hd 73 (by decide) (by kernel_rfl)
      have a152:=(hE.mine 152 73 (by kernel_rfl) (show 152 < 167 by decide)).trans e152
      have e153:u 74 = (.bool true):=hd 74 (by decide) (by kernel_rfl)
      have a153:=(hE.mine 153 74 (by kernel_rfl) (show 153 < 167 by decide)).trans e153
      have hk:=hE.const
      have hfn:=hE.fn
      have hc:=Past.cell x
      clear hE hd
      simp [go_sem,gives,nthR,detR,Below.refl,hk,a152,a153]
    | 76, _ =>
      have eo:=Option.some.inj ho
      clear ho
      have hg:o.guard = none:=by rw [← eo]
      refine jstep_ev hg ?_
      subst eo
      intro E u x hE hd
      have e154:u 75 = (.bool true):=hd 75 (by decide) (by kernel_rfl)
      have a154:=(hE.mine 154 75 (by kernel_rfl) (show 154 < 167 by decide)).trans e154
      have hk:=hE.const
      have hfn:=hE.fn
      have hc:=Past.cell x
      clear hE hd
      simp [go_sem,gives,nthR,detR,Below.refl,a154]
    | 77, _ =>
      have eo:=Option.some.inj ho
      clear ho
      have hg:o.guard = some (76,true):=by rw [← eo]
      refine jstep_guard (o:=o) 76 155 true hg (by kernel_rfl) (by kernel_rfl) (show 155 < 167 by decide) (fun u x hd => by have e:u 76 = .bool true:=hd 76 (by decide) (by kernel_rfl);exact e) ?_
      subst eo
      intro E u x hE hd
      have a15:E (.tmp 15) = (.int .i64 0):=(hE.rest 15 (by kernel_rfl)).trans rfl
      have hk:=hE.const
      have hfn:=hE.fn
      have hc:=Past.cell x
      clear hE hd
      simp [go_sem,gives,nthR,detR,Below.refl,a15]
    | 78, _ =>
      have eo:=Option.some.inj ho
      clear ho
      have hg:o.guard = some (76,true):=by rw [← eo]
      refine jstep_guard (o:=o) 76 155 true hg (by kernel_rfl) (by kernel_rfl) (show 155 < 167 by decide) (fun u x hd => by have e:u 76 = .bool true:=hd 76 (by decide) (by kernel_rfl);exact e) ?_
      subst eo
      intro E u x hE hd
      have e156:u 77 = (.int .i64 0):=hd 77 (by decide) (by kernel_rfl)
      have a156:=(hE.mine 156 77 (by kernel_rfl) (show 156 < 167 by decide)).trans e156
      have hk:=hE.const
      have hfn:=hE.fn
      have hc:=Past.cell x
      clear hE hd
      simp [go_sem,gives,nthR,detR,Below.refl,hk,a156]
    | 79, _ =>
      have eo:=Option.some.inj ho
      clear ho
      have hg:o.guard = none:=by rw [← eo]
      refine jstep_ev hg ?_
      subst eo
      intro E u x hE hd
      have e155:u 76 = (.bool true):=hd 76 (by decide) (by kernel_rfl)
      have a155:=(hE.mine 155 76 (by kernel_rfl) (show 155 < 167 by decide)).trans e155
      have e157:u 78 = (.bool true):=hd 78 (by decide) (by kernel_rfl)
      have a157:=(hE.mine 157 78 (by kernel_rfl) (show 157 < 167 by decide)).trans e157
      have hk:=hE.const
      have hfn:=hE.fn
      have hc:=Past.cell x
      clear hE hd
      simp [go_sem,gives,nthR,detR,Below.refl,hk,a155,a157]
    | 80, _ =>
      have eo:=Option.some.inj ho
      clear ho
      have hg:o.guard = none:=by rw [← eo]
      refine jstep_ev hg ?_
      subst eo
      intro E u x hE hd
      have e158:u 79 = (.bool true):=hd 79 (by decide) (by kernel_rfl)
      have a158:=(hE.mine 158 79 (by kernel_rfl) (show 158 < 167 by decide)).trans e158
      have hk:=hE.const
      have hfn:=hE.fn
      have hc:=Past.cell x
      clear hE hd
      simp [go_sem,gives,nthR,detR,Below.refl,a158]
    | 81, _ =>
      have eo:=Option.some.inj ho
      clear ho
      have hg:o.guard = some (80,true):=by rw [← eo]
      refine jstep_guard (o:=o) 80 159 true hg (by kernel_rfl) (by kernel_rfl) (show 159 < 167 by decide) (fun u x hd => by have e:u 80 = .bool true:=hd 80 (by decide) (by kernel_rfl);exact e) ?_
      subst eo
      intro E u x hE hd
      have a17:E (.tmp 17) = (.int .i64 2):=(hE.rest 17 (by kernel_rfl)).trans rfl
      have hk:=hE.const
      have hfn:=hE.fn
      have hc:=Past.cell x
      clear hE hd
      simp [go_sem,gives,nthR,detR,Below.refl,a17]
    | 82, _ =>
      have eo:=Option.some.inj ho
      clear ho
      have hg:o.guard = some (80,true):=by rw [← eo]
      refine jstep_guard (o:=o) 80 159 true hg (by kernel_rfl) (by kernel_rfl) (show 159 < 167 by decide) (fun u x hd => by have e:u 80 = .bool true:=hd 80 (by decide) (by kernel_rfl);exact e) ?_
      subst eo
      intro E u x hE hd
      have e160:u 81 = (.int .i64 2):=hd 81 (by decide) (by kernel_rfl)
      have a160:=(hE.mine 160 81 (by kernel_rfl) (show 160 < 167 by decide)).trans e160
      have hk:=hE.const
      have hfn:=hE.fn
      have hc:=Past.cell x
      clear hE hd
      simp [go_sem,gives,nthR,detR,Below.refl,hk,a160]
    | 83, _ =>
      have eo:=Option.some.inj ho
      clear ho
      have hg:o.guard = none:=by rw [← eo]
      refine jstep_ev hg ?_
      subst eo
      intro E u x hE hd
      have e159:u 80 = (.bool true):=hd 80 (by decide) (by kernel_rfl)
      have a159:=(hE.mine 159 80 (by kernel_rfl) (show 159 < 167 by decide)).trans e159
      have e161:u 82 = (.bool true):=hd 82 (by decide) (by kernel_rfl)
      have a161:=(hE.mine 161 82 (by kernel_rfl) (show 161 < 167 by decide)).trans e161
      have hk:=hE.const
      have hfn:=hE.fn
      have hc:=Past.cell x
      clear hE hd
      simp [go_sem,gives,nthR,detR,Below.refl,hk,a159,a161]
    | 84, _ =>
      have eo:=Option.some.inj ho
      clear ho
      have hg:o.guard = none:=by rw [← eo]
      refine jstep_ev hg ?_
      subst eo
      intro E u x hE hd
      have e162:u 83 = (.bool true):=hd 83 (by decide) (by kernel_rfl)
      have a162:=(hE.mine 162 83 (by kernel_rfl) (show 162 < 167 by decide)).trans e162
      have hk:=hE.const
      have hfn:=hE.fn
      have hc:=Past.cell x
      clear hE hd
      simp [go_sem,gives,nthR,detR,Below.refl,a162]
    | 85, _ =>
      have eo:=Option.some.inj ho
      clear ho
      have hg:o.guard = some (84,true):=by rw [← eo]
      refine jstep_guard (o:=o) 84 163 true hg (by kernel_rfl) (by kernel_rfl) (show 163 < 167 by decide) (fun u x hd => by have e:u 84 = .bool true:=hd 84 (by decide) (by kernel_rfl);exact e) ?_
      subst eo
      intro E u x hE hd
      have a19:E (.tmp 19) = (.int .i64 2):=(hE.rest 19 (by kernel_rfl)).trans rfl
      have hk:=hE.const
      have hfn:=hE.fn
      have hc:=Past.cell x
      clear hE hd
      simp [go_sem,gives,nthR,detR,Below.refl,a19]
    | 86, _ =>
      have eo:=Option.some.inj ho
      clear ho
      have hg:o.guard = some (84,true):=by rw [← eo]
      refine jstep_guard (o:=o) 84 163 true hg (by kernel_rfl) (by kernel_rfl) (show 163 < 167 by decide) (fun u x hd => by have e:u 84 = .bool true:=hd 84 (by decide) (by kernel_rfl);exact e) ?_
      subst eo
      intro E u x hE hd
      have e164:u 85 = (.int .i64 2):=hd 85 (by decide) (by kernel_rfl)
      have a164:=(hE.mine 164 85 (by kernel_rfl) (show 164 < 167 by decide)).trans e164
      have hk:=hE.const
      have hfn:=hE.fn
      have hc:=Past.cell x
      clear hE hd
      simp [go_sem,gives,nthR,detR,Below.refl,hk,a164]
    | 87, _ =>
      have eo:=Option.some.inj ho
      clear ho
      have hg:o.guard = none:=by rw [← eo]
      refine jstep_ev hg ?_
      subst eo
      intro E u x hE hd
      have e163:u 84 = (.bool true):=hd 84 (by decide) (by kernel_rfl)
      have a163:=(hE.mine 163 84 (by kernel_rfl) (show 163 < 167 by decide)).trans e163
      have e165:u 86 = (.bool true):=hd 86 (by decide) (by kernel_rfl)
      have a165:=(hE.mine 165 86 (by kernel_rfl) (show 165 < 167 by decide)).trans e165
      have hk:=hE.const
      have hfn:=hE.fn
      have hc:=Past.cell x
      clear hE hd
      simp [go_sem,gives,nthR,detR,Below.refl,hk,a163,a165]
    | i + 88,h => exact absurd h (by omega)
  · intro i o h;cases h
  · intro u x hu hne
    have e87:u 87 = .bool true:=hu 87 (by decide)
    have HXX:=hidE (HX.out.past x.2)
    clear hu hne
    generalize x.1 = wq at *
    simp only [frm,List.take,Act.put,e87]
    clear e87
    go_wp2
    go_ret
    exact ⟨rfl,HXX.out.bel⟩
end
section
open Go.ChangeShapes Go.WideShapes Go.ChangeAt Go.RowKit
theorem rowC_setT {n:Nat} {d:Nat→Nat} (tl:Array Value) (i v:Nat):∃ tl',(rowC n d ++ tl).setIfInBounds i (.int .i64 v) = rowC n (fun k => if k = i then v else d k) ++ tl':=by
  by_cases h:i < n
  · refine ⟨tl, ?_⟩
    rw [← rowC_set]
    apply Array.ext_getElem?
    intro k
    rw [Array.getElem?_setIfInBounds,Array.getElem?_append,Array.getElem?_append]
    simp only [Array.size_append,rowC_size,Array.size_setIfInBounds]
    by_cases c:i = k
    · subst c
      rw [if_pos rfl,if_pos (by omega),if_pos h,Array.getElem?_setIfInBounds,if_pos rfl,if_pos (by rw [rowC_size];exact h)]
    · rw [if_neg c,Array.getElem?_setIfInBounds,if_neg c]
  · refine ⟨tl.setIfInBounds (i - n) (.int .i64 v), ?_⟩
    have e:rowC n (fun k => if k = i then v else d k) = rowC n d:=rowC_ext fun k hk => by rw [if_neg (by omega)]
    rw [e]
    apply Array.ext_getElem?
    intro k
    rw [Array.getElem?_setIfInBounds,Array.getElem?_append,Array.getElem?_append]
    simp only [Array.size_append,rowC_size,Array.getElem?_setIfInBounds]
    by_cases c:i = k
    · subst c
      rw [if_pos rfl,if_neg h,if_pos rfl]
      by_cases q:i - n < tl.size
      · rw [if_pos (by omega),if_pos q]
      · rw [if_neg (by omega),if_neg q]
    · rw [if_neg c]
      by_cases q:k < n
      · rw [if_pos q,if_pos q]
      · rw [if_neg q,if_neg q,if_neg (by omega)]
structure RowX (w0:World) (blk n:Nat) (t:TypeId) (d:Nat→Nat) (w:World):Prop where
  here:∃ tl:Array Value,Blk w blk (rowC n d ++ tl) t
  low:Below blk w0 w
section
variable {w0 w w':World} {blk n:Nat} {t:TypeId} {d:Nat→Nat}
theorem RowX.lt (h:RowX w0 blk n t d w):blk < w.heap.size:=by obtain ⟨tl,q⟩:=h.here;exact q.lt
theorem RowX.cell (h:RowX w0 blk n t d w) {i:Nat} (hi:i < n):w.cell? ⟨blk,i,none⟩ = some (.int .i64 (d i)):=by
  obtain ⟨tl,q⟩:=h.here
  rw [q.cell i,Array.getElem?_append_left (by rw [rowC_size];exact hi)];exact rowC_get hi
theorem RowX.free (h:RowX w0 blk n t d w) (i:Nat):w.frozen? ⟨blk,i,none⟩ = false:=by obtain ⟨tl,q⟩:=h.here;exact q.free i
theorem RowX.past (h:RowX w0 blk n t d w) (hb:Below w.heap.size w w'):RowX w0 blk n t d w':=by
  obtain ⟨tl,q⟩:=h.here
  exact ⟨⟨tl,q.past hb⟩,h.low.trans (hb.mono (Nat.le_of_lt q.lt))⟩
theorem RowX.set (h:RowX w0 blk n t d w) (i v:Nat):RowX w0 blk n t (fun k => if k = i then v else d k) (w.setCell ⟨blk,i,none⟩ (.int .i64 v)):=by
  obtain ⟨tl,q⟩:=h.here
  obtain ⟨tl',e⟩:=rowC_setT (n:=n) (d:=d) tl i v
  exact ⟨⟨tl',by rw [← e];exact q.set i _⟩,h.low.setCell (Nat.le_refl _) _⟩
theorem RowX.ext (h:RowX w0 blk n t d w) {d':Nat→Nat} (e:d = d'):RowX w0 blk n t d' w:=e ▸ h
theorem RowX.swap (h:RowX w0 blk n t d w) (i j:Nat):RowX w0 blk n t (sw d i j) ((w.setCell ⟨blk,i,none⟩ (.int .i64 (d j))).setCell ⟨blk,j,none⟩ (.int .i64 (d i))):=by
  refine ((h.set i (d j)).set j (d i)).ext (funext fun k => ?_)
  unfold sw
  by_cases c1:k = j
  · by_cases c2:k = i
    · rw [if_pos c1,if_pos c2,← c1,← c2]
    · rw [if_pos c1,if_neg c2,if_pos c1]
  · rw [if_neg c1,if_neg c1]
theorem RowX.drew (h:RowX w0 blk n t d w):RowX w0 blk n t d w.drew:=by
  obtain ⟨tl,q⟩:=h.here
  exact ⟨⟨tl,q.drew 1⟩,h.low.drew⟩
theorem RowX.c2 (h:RowX w0 blk n t d w) (i j:Nat) (hj:j < n) (v:Nat):(w.setCell ⟨blk,i,none⟩ (.int .i64 v)).cell? ⟨blk,j,none⟩ = some (.int .i64 ((if j = i then v else d j:Nat))) :=
  (h.set i v).cell hj
end
end
section
open Go.ChangeShapes Go.WideShapes Go.ChangeAt Go.RowKit
attribute [local irreducible] Go.Calls
abbrev tcV (x:Prt) (z:Int) (v:Value):List Value:=[.int .u8 x.kind,.int .u32 x.n,.int .u32 x.g,.int .i64 x.d,.int .i64 z,.int .i64 x.kids,v]
abbrev tcA (x:Prt) (z:Int) (v:Value):Array Value:=#[.int .u8 x.kind,.int .u32 x.n,.int .u32 x.g,.int .i64 x.d,.int .i64 z,.int .i64 x.kids,v]
abbrev trV (x:Prt) (z:Int) (v:Value):Value := .agg #[.int .u8 x.kind,.int .u32 x.n,.int .u32 x.g,.int .i64 x.d,.int .i64 z,.int .i64 x.kids,v]
structure Sam (S:Nat→Prop) (w w':World):Prop where
  size:w.heap.size≤w'.heap.size
  block:∀ k,S k→k < w.heap.size→w'.heap[k]? = w.heap[k]?
section
variable {S S':Nat→Prop} {w w' w2:World}
theorem Sam.past (hb:Below w.heap.size w w'):Sam S w w':=⟨hb.size,fun k _ hk => hb.block k hk⟩
theorem Sam.below {B:Nat} (hb:Below B w w') (hS:∀ k,S k→k < B):Sam S w w':=⟨hb.size,fun k hs _ => hb.block k (hS k hs)⟩
theorem Sam.grown {r:Option Nat} (hg:w.grownBy w' r) (hS:∀ k,S k→some k ≠ r):Sam S w w':=⟨hg.size,fun k hs hk => hg.block k hk (hS k hs)⟩
end
def SlcT (S:Nat→Prop) (w:World) (v:Value) (n:Nat) (R:List Value→Prop):Prop :=
  ∃ (a:Option Addr) (cap:Nat),v = .slice a n cap∧n≤cap∧cap≤9223372036854775807∧(a = none→cap = 0)∧(0 < n→∃ b off,a = some ⟨b,off,none⟩∧S b∧b < w.heap.size∧∃ xs,R xs∧∀ j u,xs[j]? = some u→w.cell? ⟨b,off + j,none⟩ = some u)
def CelF (S:Nat→Prop) (w:World):Fst→List Value→Prop
  | .nil => fun xs => xs = []
  | .cons x K N => fun xs => ∃ (z:Int) (v:Value) (ys:List Value),xs = tcV x z v ++ ys∧SlcT S w v K.len (CelF S w K)∧CelF S w N ys
abbrev SliF (S:Nat→Prop) (w:World) (v:Value) (F:Fst):Prop:=SlcT S w v F.len (CelF S w F)
theorem SlcT.imp {S S':Nat→Prop} {w w':World} {v:Value} {n:Nat} {R R':List Value→Prop} (h:SlcT S w v n R) (hs:w.heap.size≤w'.heap.size) (hS:∀ k,S k→k < w.heap.size→S' k∧w'.heap[k]? = w.heap[k]?) (hR:∀ xs,R xs→R' xs):SlcT S' w' v n R':=by
  obtain ⟨a,cap,e,h1,h2,h3,h4⟩:=h
  refine ⟨a,cap,e,h1,h2,h3,fun hn => ?_⟩
  obtain ⟨b,off,e2,g1,g2,xs,g3,g4⟩:=h4 hn
  obtain ⟨q1,q2⟩:=hS b g1 g2
  exact ⟨b,off,e2,q1,Nat.lt_of_lt_of_le g2 hs,xs,hR xs g3,fun j u hu => (World.cell?_of_block (w:=w) (a:=⟨b,off + j,none⟩) q2).trans (g4 j u hu)⟩
theorem CelF.imp {S S':Nat→Prop} {w w':World} (hs:w.heap.size≤w'.heap.size) (hS:∀ k,S k→k < w.heap.size→S' k∧w'.heap[k]? = w.heap[k]?):∀ (F:Fst) (xs:List Value),CelF S w F xs→CelF S' w' F xs
  | .nil,_,h => h
  | .cons _x K N,_,⟨z,v,ys,e,h1,h2⟩ => ⟨z,v,ys,e,h1.imp hs hS (CelF.imp hs hS K),CelF.imp hs hS N ys h2⟩
section
variable {S S':Nat→Prop} {w w':World} {F:Fst} {xs ys:List Value} {v:Value}
theorem CelF.sam (h:CelF S w F xs) (hb:Sam S w w'):CelF S w' F xs:=CelF.imp hb.size (fun k a b => ⟨a,hb.block k a b⟩) F xs h
theorem CelF.mono (h:CelF S w F xs) (hS:∀ k,S k→k < w.heap.size→S' k):CelF S' w F xs:=CelF.imp (Nat.le_refl _) (fun k a b => ⟨hS k a b,rfl⟩) F xs h
theorem SlcT.sam (h:SliF S w v F) (hb:Sam S w w'):SliF S w' v F:=SlcT.imp h hb.size (fun k a b => ⟨a,hb.block k a b⟩) fun _ q => q.sam hb
theorem SlcT.mono (h:SliF S w v F) (hS:∀ k,S k→k < w.heap.size→S' k):SliF S' w v F:=SlcT.imp h (Nat.le_refl _) (fun k a b => ⟨hS k a b,rfl⟩) fun _ q => q.mono hS
theorem sliF_nil (S:Nat→Prop) (w:World):SliF S w (.slice none 0 0) .nil:=⟨none,0,rfl,Nat.le_refl _,by omega,fun _ => rfl,fun h => by cases h⟩
end
theorem CelF.len {S:Nat→Prop} {w:World}:∀ {F:Fst} {xs:List Value},CelF S w F xs→xs.length = F.len * 7
  | .nil,_,h => by cases h;rfl
  | .cons x K N, _, ⟨z, v, ys, e, h1, h2⟩ => by
    have:=CelF.len h2
    rw [e,List.length_append,this]
    simp only [List.length_cons,List.length_nil,Fst.len];omega
theorem CelF.one {S:Nat→Prop} {w:World}:∀ {F:Fst} {xs:List Value},CelF S w F xs→∀ u ∈ xs,u.oneCell' = true
  | .nil,_,h => by cases h;exact fun u hu => by cases hu
  | .cons x K N, _, ⟨z, v, ys, e, ⟨a, cap, ev, _⟩, h2⟩ => fun u hu => by
    subst e ev
    simp only [tcV,List.cons_append,List.nil_append,List.mem_cons] at hu
    rcases hu with rfl | rfl | rfl | rfl | rfl | rfl | rfl | hu
    all_goals first | rfl | exact CelF.one h2 u hu
theorem CelF.app {S:Nat→Prop} {w:World} {r:List Tm} {ys:List Value} (h2:CelF S w (ofL r) ys):∀ {l:List Tm} {xs:List Value},CelF S w (ofL l) xs→CelF S w (ofL (l ++ r)) (xs ++ ys)
  | [],_,h => by cases h;exact h2
  | t :: l,_,⟨z,v,zs,e,h1,h3⟩ => ⟨z,v,zs ++ ys,by rw [e,List.append_assoc],h1,CelF.app h2 h3⟩
theorem celF_one {S:Nat→Prop} {w:World} {t:Tm} {z:Int} {v:Value} (h:SliF S w v t.2):CelF S w (ofL [t]) (tcV t.1 z v):=⟨z,v,[],by simp,h,rfl⟩
theorem CelF.get {S:Nat→Prop} {w:World}:∀ {F:Fst} {xs:List Value},CelF S w F xs→∀ i,i < F.len→∃ z v,(∀ j u,(tcV ((toL F).getD i tm0).1 z v)[j]? = some u→xs[i * 7 + j]? = some u)∧SliF S w v ((toL F).getD i tm0).2
  | .nil,_,_ => fun i hi => by simp [Fst.len] at hi
  | .cons x K N, _, ⟨z, v, ys, e, h1, h2⟩ => fun i hi => by
    cases i with
    | zero =>
      refine ⟨z,v,fun j u hu => ?_,h1⟩
      have hj:=(List.getElem?_eq_some_iff.1 hu).1
      rw [e,Nat.zero_mul,Nat.zero_add,List.getElem?_append_left (by simpa using hj)];exact hu
    | succ i =>
      obtain ⟨z',v',g1,g2⟩:=CelF.get h2 i (by simpa [Fst.len] using hi)
      refine ⟨z',v',fun j u hu => ?_,by simpa [toL] using g2⟩
      rw [e,List.getElem?_append_right (by simp;omega)]
      have:=g1 j u (by simpa [toL] using hu)
      rw [← this]
      congr 1
      simp;omega
theorem SlcT.get {S:Nat→Prop} {w:World} {v:Value} {F:Fst} (h:SliF S w v F) {i:Nat} (hi:i < F.len):∃ b off cap z vk,v = .slice (some ⟨b,off,none⟩) F.len cap∧F.len≤cap∧b < w.heap.size∧S b∧SliF S w vk ((toL F).getD i tm0).2 ∧
    w.cell? ⟨b,off + i * 7,none⟩ = some (.int .u8 ((toL F).getD i tm0).1.kind)∧w.cell? ⟨b,off + i * 7 + 1,none⟩ = some (.int .u32 ((toL F).getD i tm0).1.n)∧w.cell? ⟨b,off + i * 7 + 2,none⟩ = some (.int .u32 ((toL F).getD i tm0).1.g)∧w.cell? ⟨b,off + i * 7 + 3,none⟩ = some (.int .i64 ((toL F).getD i tm0).1.d) ∧
    w.cell? ⟨b,off + i * 7 + 4,none⟩ = some (.int .i64 z)∧w.cell? ⟨b,off + i * 7 + 5,none⟩ = some (.int .i64 ((toL F).getD i tm0).1.kids)∧w.cell? ⟨b,off + i * 7 + 6,none⟩ = some vk:=by
  obtain ⟨a,cap,e,h1,_,_,h4⟩:=h
  obtain ⟨b,off,rfl,g1,g2,xs,g3,g4⟩:=h4 (by omega)
  obtain ⟨z,vk,q1,q2⟩:=g3.get i hi
  have c:∀ j u,(tcV ((toL F).getD i tm0).1 z vk)[j]? = some u→w.cell? ⟨b,off + i * 7 + j,none⟩ = some u:=fun j u hu => by rw [Nat.add_assoc];exact g4 _ u (q1 j u hu)
  exact ⟨b,off,cap,z,vk,e,h1,g2,g1,q2,c 0 _ rfl,c 1 _ rfl,c 2 _ rfl,c 3 _ rfl,c 4 _ rfl,c 5 _ rfl,c 6 _ rfl⟩
theorem SlcT.shape {S:Nat→Prop} {w:World} {v:Value} {n:Nat} {R:List Value→Prop} (h:SlcT S w v n R):∃ a cap,v = .slice a n cap∧n≤cap∧cap≤9223372036854775807:=by
  obtain ⟨a,cap,e,h1,h2,_⟩:=h
  exact ⟨a,cap,e,h1,h2⟩
theorem SlcT.src {S:Nat→Prop} {w:World} {v:Value} {F:Fst} (h:SliF S w v F):∃ ys,SrcV w 7 v F.len ys∧CelF S w F ys:=by
  obtain ⟨a,cap,rfl,h1,h2,h3,h4⟩:=h
  by_cases hl:0 < F.len
  · obtain ⟨b,off,rfl,g1,g2,xs,g3,g4⟩:=h4 hl
    refine ⟨xs,⟨_,cap,rfl,fun e => (by simp at e),g3.len,g3.one, ?_⟩,g3⟩
    rintro ad ⟨⟩ j u hu
    have ad:(⟨b,off,none⟩:Addr).add j = ⟨b,off + j,none⟩:=by
      unfold Addr.add
      by_cases c:j = 0
      · subst c;simp
      · simp [c]
    rw [ad];exact g4 j u hu
  · cases F with
    | nil => exact ⟨[],⟨a,cap,rfl,fun e => ⟨rfl,h3 e⟩,rfl,fun u hu => by simp at hu,fun ad _ j u hu => by simp at hu⟩,rfl⟩
    | cons x K N => simp [Fst.len] at hl
def OwnN (B:Nat) (S:Nat→Prop) (w:World) (v:Value) (l:List Tm):Prop:=∃ xs,w.ownsRow B 62 7 v l.length xs∧CelF S w (ofL l) xs
theorem ownN_nil (B:Nat) (S:Nat→Prop) (w:World):OwnN B S w (.slice none 0 0) []:=⟨[],own_nil _ _ _,rfl⟩
def Old (S:Nat→Prop) (w:World):Nat→Prop:=fun k => S k∧k < w.heap.size
theorem SlcT.old {S:Nat→Prop} {w:World} {v:Value} {F:Fst} (h:SliF S w v F):SliF (Old S w) w v F:=h.mono fun _ a b => ⟨a,b⟩
theorem Sam.old {S:Nat→Prop} {w a b:World} (h:Below w.heap.size a b):Sam (Old S w) a b:=Sam.below h fun _ q => q.2
theorem OwnN.sli {B:Nat} {S S':Nat→Prop} {w:World} {v:Value} {l:List Tm} (h:OwnN B S w v l) (hS:∀ k,B≤k→S' k) (hS':∀ k,S k→S' k):SliF S' w v (ofL l):=by
  obtain ⟨xs,⟨h1,h2 | ⟨g,cap,cur,rfl,h3,h4,h5,h6,h7,h8⟩⟩,hr⟩:=h
  · obtain ⟨rfl,h2⟩:=h2
    have:l = []:=List.eq_nil_of_length_eq_zero h2
    subst this
    exact sliF_nil _ _
  · refine ⟨some ⟨g,0,none⟩,cap,by rw [ofL_len],by rw [ofL_len];exact h5,by unfold maxLen at h6;omega,fun e => (by simp at e),fun _ => ⟨g,0,rfl,hS g h3,lt_of_block h4,xs,hr.mono (fun k a _ => hS' k a),fun j u hu => ?_⟩⟩
    have hj:j < l.length * 7:=by have:=(List.getElem?_eq_some_iff.1 hu).1;have:=hr.len;rw [ofL_len] at this;omega
    have e:w.cell? ⟨g,0 + j,none⟩ = cur[j]? := by simp [World.cell?,h4]
    rw [e,← Array.getElem?_toList]
    rw [← h8,List.getElem?_take,if_pos hj] at hu
    exact hu
def TermB (S:Nat→Prop) (w:World) (p:Nat) (t:Tm):Prop:=∃ z v,Blk w p (tcA t.1 z v) 62∧SliF S w v t.2
theorem TermB.sam {S:Nat→Prop} {w w':World} {p:Nat} {t:Tm} (h:TermB S w p t) (hb:Sam S w w') (hp:w'.heap[p]? = w.heap[p]?):TermB S w' p t:=by
  obtain ⟨z,v,h1,h2⟩:=h
  exact ⟨z,v,hp.trans h1,h2.sam hb⟩
theorem TermB.past {S:Nat→Prop} {w w':World} {p:Nat} {t:Tm} (h:TermB S w p t) (hb:Below w.heap.size w w'):TermB S w' p t:=by
  obtain ⟨z,v,h1,h2⟩:=id h
  exact h.sam (Sam.past hb) (hb.block p h1.lt)
theorem TermB.lt {S:Nat→Prop} {w:World} {p:Nat} {t:Tm} (h:TermB S w p t):p < w.heap.size:=by
  obtain ⟨z,v,h1,h2⟩:=h
  exact h1.lt
abbrev put7 (w:World) (p:Nat) (x:Prt) (z:Int) (v:Value):World :=
  ((((((w.setCell ⟨p,0,none⟩ (.int .u8 x.kind)).setCell ⟨p,1,none⟩ (.int .u32 x.n)).setCell ⟨p,2,none⟩ (.int .u32 x.g)).setCell ⟨p,3,none⟩ (.int .i64 x.d)).setCell ⟨p,4,none⟩ (.int .i64 z)).setCell ⟨p,5,none⟩ (.int .i64 x.kids)).setCell ⟨p,6,none⟩ v
theorem put7_blk {w:World} {p:Nat} {y:Prt} {q:Int} {u:Value} {T:TypeId} (h:Blk w p (tcA y q u) T) (x:Prt) (z:Int) (v:Value):Blk (put7 w p x z v) p (tcA x z v) T:=by
  have h0:=h.set 0 (.int .u8 x.kind)
  simp only [tcA,List.setIfInBounds_toArray,List.set_cons_zero] at h0
  have h1:=h0.set 1 (.int .u32 x.n)
  simp only [List.setIfInBounds_toArray,List.set_cons_zero,List.set_cons_succ] at h1
  have h2:=h1.set 2 (.int .u32 x.g)
  simp only [List.setIfInBounds_toArray,List.set_cons_zero,List.set_cons_succ] at h2
  have h3:=h2.set 3 (.int .i64 x.d)
  simp only [List.setIfInBounds_toArray,List.set_cons_zero,List.set_cons_succ] at h3
  have h4:=h3.set 4 (.int .i64 z)
  simp only [List.setIfInBounds_toArray,List.set_cons_zero,List.set_cons_succ] at h4
  have h5:=h4.set 5 (.int .i64 x.kids)
  simp only [List.setIfInBounds_toArray,List.set_cons_zero,List.set_cons_succ] at h5
  have h6:=h5.set 6 v
  simp only [List.setIfInBounds_toArray,List.set_cons_zero,List.set_cons_succ] at h6
  exact h6
theorem put7_grown (w:World) (p:Nat) (x:Prt) (z:Int) (v:Value):w.grownBy (put7 w p x z v) (some p):=by
  refine grown_trans ?_ (grown_set _ p 6 _)
  refine grown_trans ?_ (grown_set _ p 5 _)
  refine grown_trans ?_ (grown_set _ p 4 _)
  refine grown_trans ?_ (grown_set _ p 3 _)
  refine grown_trans ?_ (grown_set _ p 2 _)
  refine grown_trans ?_ (grown_set _ p 1 _)
  exact grown_set _ p 0 _
theorem SlcT.off {S:Nat→Prop} {w w':World} {v:Value} {F:Fst} (h:SliF S w v F) {p:Nat} (hS:¬ S p) (hg:w.grownBy w' (some p)):SliF S w' v F :=
  h.sam (Sam.grown hg fun k hk e => hS (by cases e;exact hk))
theorem Tryz.infoTermN:(Tryz.prog.info? 62).map (fun i => (i.zero,i.size,i.bytes)) = some (some (.agg #[.int .u8 0,.int .u32 0,.int .u32 0,.int .i64 0,.int .i64 0,.int .i64 0,.slice none 0 0]),7,64):=by kernel_rfl
end
end Go.Proofs.YthlepbbdjmmelaaGreatDoor
