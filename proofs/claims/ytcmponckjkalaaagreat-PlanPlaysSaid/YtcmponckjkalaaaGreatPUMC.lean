/- The stretches of a window: what the walk over a function's runs hands on, and what sums, lows, highs and cuts are of it. No program. No conditions. A sliding sum, stretch by stretch: what a cursor moves on to, how far the sum goes on as a straight line, and when that line is above a limit. No program. No conditions. What is made of two functions, told by values. No program. No conditions. -/
import Derived.Test.YtcmponckjkalaaaGreatPUMB
namespace Go.Proofs.YtcmponckjkalaaaGreat
section
theorem doS_vals {k:Int} {F G D:List Sg} (h:doS k F G=(D,0)):mayB F=true∧mayB G=true∧mayB D=true∧∀ t,opT k F G t=((vat D t).1,(vat D t).2,0):=by
 unfold doS at h
 split at h
 ·cases h
 ·rename_i h1
  obtain ⟨a,b⟩:mayB F=true∧mayB G=true:=by simpa using h1
  split at h
  ·rename_i h2
   cases h
   obtain ⟨c1,c2⟩:=opL_spec (mayB_iff.1 a) (mayB_iff.1 b) h2
   refine ⟨a,b,mayB_iff.2 c1,fun t => ?_⟩
   rw[c2 t]
   have:=opOk_iff.1 h2 t
   unfold opW
   exact Prod.ext rfl (Prod.ext rfl this)
  ·cases h
theorem doS_of {k:Int} {F G R:List Sg} (hF:mayB F=true) (hG:mayB G=true) (hR:mayB R=true) (h:∀ t,opT k F G t=((vat R t).1,(vat R t).2,0)):doS k F G=(R,0):=by
 have hok:opOk k F G=true:=opOk_iff.2 fun t=>by rw[h t]
 unfold doS
 rw[hF,hG,if_neg (by decide),if_pos hok]
 rw[opL_unique (mayB_iff.1 hF) (mayB_iff.1 hG) hok (mayB_iff.1 hR) fun t=>by unfold opW;rw[h t]]
theorem doS_ext {k:Int} {F G F' G':List Sg} (hF:mayB F=true) (hG:mayB G=true) (hF':mayB F'=true) (hG':mayB G'=true) (h:∀ t,opT k F G t=opT k F' G' t):doS k F G=doS k F' G':=by
 by_cases hok:opOk k F G=true
 ·have e:doS k F G=(opL k F G,0):=by unfold doS;rw[hF,hG,if_neg (by decide),if_pos hok]
  rw[e]
  obtain ⟨_,_,hm,hv⟩:=doS_vals e
  exact (doS_of hF' hG' hm fun t=>by rw[←h t,hv t]).symm
 ·have hok':¬ opOk k F' G'=true:=fun h'=>hok (opOk_iff.2 fun t=>by rw[h t];exact opOk_iff.1 h' t)
  unfold doS
  rw[hF,hG,hF',hG',if_neg (by decide),if_neg hok,if_neg (by decide),if_neg hok']
theorem min_self {F:List Sg} (h:mayB F=true):doS 2 F F=(F,0):=doS_of h h h fun t=>by
 unfold opT
 obtain ⟨a,b⟩:=vat F t
 rw[opV_2]
 unfold mn
 simp
end
end Go.Proofs.YtcmponckjkalaaaGreat
