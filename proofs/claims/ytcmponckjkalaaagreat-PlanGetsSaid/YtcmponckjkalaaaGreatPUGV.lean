/- A step of a region that draws its order, with the frame opaque: what each operand reads as is all that is known of it. No conditions. -/
import Derived.Test.YtcmponckjkalaaaGreatPUGU
namespace Go.Proofs.YtcmponckjkalaaaGreat
section
open Go.RowKit
section
variable {P:Program} {l:List Oper} {n:Nat} {a0:Act} {w0:World} {R:Nat→Value→World→Prop} {fr:Nat→Bool}
structure Ev (l:List Oper) (n:Nat) (a0:Act) (u:Nat→Value) (E:Operand→Value):Prop where
 mine:∀ t j,dstOnly (l.take n) t j=true→t<a0.tmps.size→E (.tmp t)=u j
 rest:∀ t,dstNone (l.take n) t=true→E (.tmp t)=a0.eval (.tmp t)
 const:∀ v,E (.const v)=v
 fn:∀ f,E (.func f) = .func (.func f) #[] #[]
theorem ev_of (u:Nat→Value):Ev l n a0 u (frm (l.take n) u 0 a0).eval:=⟨fun _ _ hd ht=>ev_mine hd ht,fun _ hd=>ev_rest hd,fun _=>rfl,fun _=>rfl⟩
theorem jstep_ev {i:Nat} {o:Oper} (hg:o.guard=none)
  (h:∀ (E:Operand→Value) (u:Nat→Value) (x:Past w0),Ev l n a0 u E→(∀ j,j<n→waits l.toArray i j=true→R j (u j) x.1) →
   gives P (fun v w'=>Below x.1.heap.size x.1 w'∧R i v w'∧(fr i=true→∃ p,v = .pointer (some ⟨p,0,none⟩)∧x.1.heap.size≤p∧p<w'.heap.size)) ((execOp E o).run P x.1)):JStep P l n a0 w0 R fr i o:=by
 intro u x hd
 rw[if_pos (by unfold Region.wanted;rw[hg])]
 exact h _ u x (ev_of u) hd
theorem jstep_guard {i:Nat} {o:Oper} (k t:Nat) (b:Bool) (hg:o.guard=some (k,b)) (ht:(match l[k]? with | some p=>p.dst == some t | none=>false)=true) (hdt:dstOnly (l.take n) t k=true) (hsz:t<a0.tmps.size)
  (hk:∀ (u:Nat→Value) (x:Past w0),(∀ j,j<n→waits l.toArray i j=true→R j (u j) x.1)→u k = .bool b)
  (h:∀ (E:Operand→Value) (u:Nat→Value) (x:Past w0),Ev l n a0 u E→(∀ j,j<n→waits l.toArray i j=true→R j (u j) x.1) →
   gives P (fun v w'=>Below x.1.heap.size x.1 w'∧R i v w'∧(fr i=true→∃ p,v = .pointer (some ⟨p,0,none⟩)∧x.1.heap.size≤p∧p<w'.heap.size)) ((execOp E o).run P x.1)):JStep P l n a0 w0 R fr i o:=by
 intro u x hd
 have hE:=ev_mine (u:=u) hdt hsz
 rw[hk u x hd] at hE
 have hdst:((l.toArray[k]?).bind (·.dst))=some t:=by
  rw[List.getElem?_toArray]
  cases hl:l[k]? with
  | none=>rw[hl] at ht;cases ht
  | some p=>rw[hl] at ht;simpa using ht
 have hread:(frm (l.take n) u 0 a0).tmps[t]? = some (.bool b):=by
  have e:(frm (l.take n) u 0 a0).tmps.getD t undef = .bool b:=hE
  rw[Array.getD_eq_getD_getElem?] at e
  cases hq:(frm (l.take n) u 0 a0).tmps[t]? with
  | none=>rw[hq] at e;cases e
  | some v=>rw[hq] at e;exact congrArg some e
 rw[if_pos (by
  unfold Region.wanted
  rw[hg]
  simp only[yielded,hdst,Option.bind_some,hread]
  cases b<;>rfl)]
 exact h _ u x (ev_of u) hd
end
end
end Go.Proofs.YtcmponckjkalaaaGreat
