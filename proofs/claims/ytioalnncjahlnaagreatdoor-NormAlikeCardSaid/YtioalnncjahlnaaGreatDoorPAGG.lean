/- The rule of order: (*term).sort. Conditions: the block reads as a term that may be, its size, the tables. The rule of texts that were there: (*term).unique. Conditions: the block reads as a term that may be, its size, the tables. The rules, till none changes a term: (*term).settle. Conditions: the block reads as a term that may be, its children plain, its size, the tables. The contracts of the document's own answers of layer 8: Depth, Atoms, Same. No conditions but sizes, and that the slices' cells read as parts, as places. How parts that may be hang together: ends, children, depths. No program. No conditions. Children, their depths, and that each part but the first is the child of just one. No program. No conditions. Depths of parts, of terms that may be. No program. No conditions. Parts of a term among a list of parts: where they lie, where the children lie; what normalizing them makes. No program. No conditions. Appends that tell where the new row lies; a term stored into a row's last place. No function of the program. No conditions. Normalizing a part: what is kept between two children, and a child appended. No function of the program. No conditions. The five reasons why a part may not be, one by one. No conditions but the machine's bounds. A block's cells read, and written, all at once. No function of the program. No conditions. The spot behind a part. No conditions but that no reason holds of the part. -/
import Derived.Test.YtioalnncjahlnaaGreatDoorPAGF
import Derived.Maps.OwnOps
import Derived.Maps.Views
import Derived.Test.YtioalnncjahlnaaGreatDoorPAGB
import Derived.Test.YtioalnncjahlnaaGreatDoorPAMA
import Derived.Test.YtioalnncjahlnaaGreatDoorPAGC
import Derived.Maps.AppendAt
import Derived.Test.YtioalnncjahlnaaGreatDoorPAGA
import Derived.Deep.MidRow
namespace Go.Proofs.YtioalnncjahlnaaGreatDoor
open Go.ChangeShapes Go.WideShapes Go.ChangeAt Go.RowKit
attribute [local irreducible] Go.Calls

set_option maxHeartbeats 8000000 in
set_option maxRecDepth 100000 in
theorem sort_c (S : Nat → Prop) (p : Nat) (t : Tm) (w : World) (deep ink : Nat) (hS : ¬ S p) (hS2 : ∀ k, w.heap.size ≤ k → S k) (hT : TermB S w p t) (hf : FitT t deep ink) (hs : sizT t ≤ 64) (hTab : Tab w) :
    Calls Tryz.prog 99 #[.pointer (some ⟨p, 0, none⟩)] w (RuleTo S p (sortR t) t w) := by
  have HTX := hidE (texts_c S p t w deep ink hT hf hs hTab)
  have hkk := badP_kids hf.1
  have hlen := fitT_len hf
  obtain ⟨z, v, hb, hv⟩ := hT
  obtain ⟨av, cap, rfl, hc1, hc2⟩ := hv.shape
  obtain ⟨kd, hkd⟩ : ∃ kd, t.1.kind = kd := ⟨_, rfl⟩
  obtain ⟨n, hn⟩ : ∃ n, t.2.len = n := ⟨_, rfl⟩
  have pz := hb.lt
  have hn16 : n ≤ 16 := by omega
  have HB := hidE hb; have HV := hidE hv.old; have HKD := hidE hkd; have HN := hidE hn
  have c0 := hb.cell 0
  simp at c0
  rw [hkd] at c0
  by_cases h34 : kd = 3 ∨ kd = 4
  · have k1 : ((kd : Int) != 3) = true ∧ ((kd : Int) != 4) = false ∨ ((kd : Int) != 3) = false := by
      rcases h34 with e | e
      · subst e; right; rfl
      · subst e; left; exact ⟨rfl, rfl⟩
    have H34 := hidE h34
    clear hv hb hf hTab hkd hn hkk
    go_enter Tryz.func99, Tryz.ntmps99
    go_upto_region 1 with fail
    go_cut [22] (fun v22 wx => v22 = .bool false ∧ wx = w)
    case first =>
      rcases k1 with ⟨k1, k2⟩ | k1
      all_goals
        go_wp2
        go_meet
        case rel => exact ⟨rfl, rfl⟩
    case rest =>
      obtain ⟨rfl, rfl⟩ := hcut
      clear k1 h34
      go_wp2_with fail
      ((with_reducible refine HTX.out.mono ?_); rintro e w1 ⟨vt, rfl, hz1, hb1, _, _⟩)
      have hll : ((toL t.2).map txN).length = n := by rw [List.length_map, toL_len]; exact HN.out
      obtain ⟨l, hl⟩ : ∃ l, l = (toL t.2).map txN := ⟨_, rfl⟩
      rw [← hl] at hz1 hll
      have HL := hidE hl
      obtain ⟨at1, ct1, rfl, ht1, ht2, _⟩ := id hz1
      rw [hll] at hz1 ht1 ⊢
      have hq1 := hb1.size
      go_wp2_with fail
      obtain ⟨w2, hw2⟩ : ∃ w2, w2 = w1.alloc (.cells #[.slice at1 n ct1] 186) := ⟨_, rfl⟩
      rw [← hw2]
      have hQ : Below wc.heap.size wc w2 := by rw [hw2]; (repeat (first | exact Below.refl _ _ | assumption | refine balloc ?_ _ | refine below_drewN ?_ _ | refine bstep (by assumption) ?_ | refine bstep (Past.prop _) ?_ | refine Below.setCell ?_ (by first | exact Nat.le_refl _ | (simp; done) | (simp; omega)) _))
      have hQ1 : Blk w2 w1.heap.size #[.slice at1 n ct1] 186 := by rw [hw2]; exact Blk.made _ _ _
      have hZ1 : SliZ w2 (.slice at1 n ct1) l := hz1.past (by rw [hw2]; (repeat (first | exact Below.refl _ _ | assumption | refine balloc ?_ _ | refine below_drewN ?_ _ | refine bstep (by assumption) ?_ | refine bstep (Past.prop _) ?_ | refine Below.setCell ?_ (by first | exact Nat.le_refl _ | (simp; done) | (simp; omega)) _)))
      have hsz2 : w2.heap.size = w1.heap.size + 1 := by rw [hw2]; simp
      have HQ := hidE hQ; have HQ1 := hidE hQ1; have HZ1 := hidE hZ1
      clear hw2 hQ hQ1 hZ1 hz1 hb1 hl
      have HIS := hidE (isSorted_c l (.slice at1 n ct1) w2 (by omega) HZ1.out)
      ((with_reducible refine HIS.out.mono ?_); rintro e w3 ⟨r, rfl, hr, hb3⟩)
      have hrs : r = srtB (toL t.2) := sort_srt (by rw [← HL.out]; exact hr)
      have HQ3 := hidE (HQ.out.trans (hb3.mono HQ.out.size)); have HZ3 := hidE (HZ1.out.past hb3); have HQ4 := hidE (HQ1.out.past hb3)
      have h3 := hb3.size
      cases r with
      | true =>
        have hR : sortR t = none := by unfold sortR; rw [if_neg (by rw [← hrs]; exact fun q => by cases q.2)]
        have HR := hidE hR
        clear hr hrs hR HQ HZ1 HQ1 HIS hb3
        go_wp2
        go_ret
        rw [RuleTo, HR.out]
        exact ⟨rfl, TermB.past ⟨z, _, HB.out, HV.out.mono fun k a _ => a.1⟩ HQ3.out, grown_any HQ3.out⟩
      | false =>
        have hR : sortR t = some (t.1, ofL (sortG (toL t.2))) := by unfold sortR; rw [if_pos ⟨by rw [HKD.out]; exact H34.out, hrs.symm⟩]
        have HR := hidE hR
        have hn0 : 0 < n := by
          rcases Nat.eq_zero_or_pos n with e | e
          · exfalso
            have : toL t.2 = [] := List.eq_nil_of_length_eq_zero (by rw [toL_len, HN.out]; exact e)
            rw [this] at hrs; simp [srtB, sortG] at hrs
          · exact e
        have e0 := HQ4.out.cell 0; have ez := HQ4.out.lt
        simp at e0
        clear hr hrs hR HQ HZ1 HQ1 HIS hb3
        obtain ⟨ix, hix, hz0, hzz, hz4⟩ := info_parts Tryz.infoIntN
        have HI := hidE hix; have HZ0 := hidE hz0; have HY1 := hidE hzz; have HY2 := hidE hz4
        clear hix hz0 hzz hz4
        go_wp2
        go_loopg [4, 29] n (fun gh v4 v29 wr => ∃ k : Nat, k ≤ n ∧ n - k ≤ gh ∧ v29 = .int .i64 k ∧ wr.ownsRow w3.heap.size 3 1 v4 k (cellsK .i64 (natsI (List.range k))) ∧ Below w3.heap.size w3 wr)
        case atStart => exact ⟨0, Nat.zero_le _, Nat.le_refl _, rfl, own_nil _ _ _, Below.refl _ _⟩
        case round =>
          obtain ⟨k, hkn, hgh, rfl, hown, hbl⟩ := hrel
          have HOW := hidE hown; have HBL := hidE hbl; have HGH := hidE hgh
          have hws := hbl.size
          obtain ⟨a4, c4, rfl⟩ := own_sli hown
          clear hown hbl hgh e0 ez
          by_cases hk : k < n
          · have q1 : decide ((k : Int) < (n : Int)) = true := decide_eq_true (by omega)
            have q2 : decide (k < n) = true := decide_eq_true hk
            go_wp2_with (at_builtin; go_loud (refine list_appV rfl (.tmp 32) (.tmp 34) 29 rfl w3.heap.size 3 ix _ 1 8 Tryz.underlying29 HI.out HZ0.out HY1.out HY2.out rfl (by decide) (.slice a4 k c4) k (cellsK .i64 (natsI (List.range k))) rfl (own_below HOW.out (by (repeat (first | exact Below.refl _ _ | assumption | refine balloc ?_ _ | refine below_drewN ?_ _ | refine bstep (by assumption) ?_ | refine bstep (Past.prop _) ?_ | refine Below.setCell ?_ (by first | exact Nat.le_refl _ | (simp; done) | (simp; omega)) _)))) _ 1 [.int .i64 k] rfl (srcV_new (Blk.made_at _ _ _ _ (by first | rfl | (simp; done))) rfl (by intro y hy; simp at hy; subst hy; rfl)) (by omega) (by omega) (by simp; omega) ?_); intro v' w' own' hg'; obtain ⟨av', cp', rfl⟩ := own_sli own')
            go_roundg (n - (k + 1))
            case measure => have := HGH.out; omega
            case rel =>
              refine ⟨k + 1, hk, Nat.le_refl _, by go_num, ?_, Below.grown (HBL.out.trans ((show Below wr.heap.size wr _ from by (repeat (first | exact Below.refl _ _ | assumption | refine balloc ?_ _ | refine below_drewN ?_ _ | refine bstep (by assumption) ?_ | refine bstep (Past.prop _) ?_ | refine Below.setCell ?_ (by first | exact Nat.le_refl _ | (simp; done) | (simp; omega)) _))).mono hws)) hg' (by simp; omega) (fun j hj => own_block HOW.out hj)⟩
              rw [List.range_succ, natsI_app, cellsK_app]; exact own'
          · have hkn' : k = n := by omega
            subst hkn'
            have q1 : decide ((k : Int) < (k : Int)) = false := decide_eq_false (by omega)
            have q2 : decide (k < k) = false := decide_eq_false (by omega)
            obtain ⟨g, cg, hv4, hgB, hrow⟩ := rowX_own HOW.out hn0
            cases hv4
            have HROW := hidE hrow
            have HCM := hidE (show Cmps wr g k (.pointer (some ⟨w1.heap.size, 0, none⟩)) (keyK (toL t.2)) from fun w' hb' x y hx hy => by
              have h6 : Below w3.heap.size w3 w' := HBL.out.trans (hb'.mono hgB)
              have hq6 := (HQ4.out.past h6).cell 0
              have hln : (toL t.2).length = k := by rw [toL_len]; exact HN.out
              have := scmp_c l (.slice at1 k ct1) w1.heap.size x y w' (HZ3.out.past h6) (by omega) (by simpa using hq6) (HQ4.out.past h6).lt (by omega) (by omega)
              rw [HL.out, keyK_cmp (by omega) (by omega)] at this
              exact this)
            have HSS := hidE (sortStable_c wr wr g k c4 3 (keyK (toL t.2)) (.pointer (some ⟨w1.heap.size, 0, none⟩)) id HROW.out HCM.out (fun a b h _ => .inr h) (fun a h => h) (by omega))
            clear hrow HOW
            go_wp2_with fail
            ((with_reducible refine HSS.out.mono ?_); rintro e w5 ⟨rfl, d, hrow5, hmv, _, hsr⟩)
            have hb5 : Below w3.heap.size w3 w5 := HBL.out.trans (hrow5.low.mono hgB)
            have hbw : Below wc.heap.size wc w5 := HQ3.out.trans (hb5.mono HQ3.out.size)
            have hfin := sort_is (L := toL t.2) (n := k) (by rw [toL_len]; exact HN.out) hmv (fun i j hi hj => keyK_iff (by rw [toL_len, HN.out]; exact hi) (by rw [toL_len, HN.out]; exact hj)) hsr
            have hok := (show Okd k id from fun a h => h).mv hmv (Nat.le_refl _)
            have HR5 := hidE hrow5; have HBW := hidE hbw; have HFIN := hidE hfin; have HOKD := hidE hok
            have hw5 := hbw.size
            clear hrow5 hmv hsr hb5 hbw hfin hok HSS HCM HROW HBL
            obtain ⟨iy, hiy, hz0, hzz, hz4⟩ := info_parts Tryz.infoTermN
            have JI := hidE hiy; have JZ0 := hidE hz0; have JY1 := hidE hzz; have JY2 := hidE hz4
            clear hiy hz0 hzz hz4
            go_wp2
            go_loopg [6, 42] k (fun gh v6 v42 wr2 => ∃ m : Nat, m ≤ k ∧ k - m ≤ gh ∧ v42 = .int .i64 m ∧ OwnN w5.heap.size (Old S wc) wr2 v6 ((List.range m).map fun j => (toL t.2).getD (d j) tm0) ∧ Below w5.heap.size w5 wr2)
            case atStart => exact ⟨0, Nat.zero_le _, Nat.le_refl _, rfl, ownN_nil _ _ _, Below.refl _ _⟩
            case round =>
              obtain ⟨m, hmk, hgh, rfl, hown, hbl⟩ := hrel
              have HBL := hidE hbl; have HGH := hidE hgh
              have hws := hbl.size
              obtain ⟨xs, ho, hrx⟩ := hown
              rw [List.length_map, List.length_range] at ho
              obtain ⟨a6, c6, rfl⟩ := own_sli ho
              have HOW := hidE ho; have HRX := hidE hrx
              have hbw2 := HBW.out.trans (hbl.mono hw5)
              have HBW2 := hidE hbw2
              have b6 := (HB.out.past hbw2).cell 6
              have bz := (HB.out.past hbw2).lt
              simp at b6
              rw [HN.out] at b6
              clear hbl hgh ho hrx hbw2
              by_cases hk : m < k
              · have q1 : decide ((m : Int) < (k : Int)) = true := decide_eq_true (by omega)
                have q2 : decide (m < k) = true := decide_eq_true hk
                have r0 := (HR5.out.past HBL.out).cell (i := m) hk
                have rz := (HR5.out.past HBL.out).lt
                have hdm := HOKD.out m hk
                obtain ⟨b, off, cap', z', vk, e, _, hbz, hSb, hkv, d0, d1, d2, d3, d4, d5, d6⟩ := (HV.out.sam (Sam.old (HBW2.out))).get (i := d m) (by rw [HN.out]; exact hdm)
                cases e
                obtain ⟨u, hu⟩ : ∃ u, (toL t.2).getD (d m) tm0 = u := ⟨_, rfl⟩
                rw [hu] at d0 d1 d2 d3 d5 hkv
                obtain ⟨ak, ck, rfl, hk1, hk2⟩ := hkv.shape
                have HK := hidE hkv; have HU := hidE hu
                have hdz : (d m : Int) < (k : Int) := by omega
                obtain ⟨dm, hdme⟩ : ∃ dm, d m = dm := ⟨_, rfl⟩
                rw [hdme] at r0 hdm hdz d0 d1 d2 d3 d4 d5 d6
                clear hkv hu hdme
                go_wp2_with (at_builtin; go_loud (refine list_appV rfl (.tmp 46) (.tmp 54) 77 rfl w5.heap.size 79 iy _ 7 64 Tryz.underlying77 JI.out JZ0.out JY1.out JY2.out rfl (by decide) (.slice a6 m c6) m xs rfl (own_below HOW.out (by (repeat (first | exact Below.refl _ _ | assumption | refine balloc ?_ _ | refine below_drewN ?_ _ | refine bstep (by assumption) ?_ | refine bstep (Past.prop _) ?_ | refine Below.setCell ?_ (by first | exact Nat.le_refl _ | (simp; done) | (simp; omega)) _)))) _ 1 (tcV u.1 z' _) rfl (srcV_new (Blk.made_at _ _ _ _ (by first | rfl | (simp; done))) rfl (by intro y hy; simp at hy; rcases hy with rfl | rfl | rfl | rfl | rfl | rfl | rfl <;> rfl)) (by omega) (by omega) (by simp; omega) ?_); intro v' w' own' hg'; obtain ⟨av', cp', rfl⟩ := own_sli own')
                go_roundg (k - (m + 1))
                case measure => have := HGH.out; omega
                case rel =>
                  have hbl3 := (show Below w5.heap.size wr w' from Below.grown ((show Below wr.heap.size wr _ from by (repeat (first | exact Below.refl _ _ | assumption | refine balloc ?_ _ | refine below_drewN ?_ _ | refine bstep (by assumption) ?_ | refine bstep (Past.prop _) ?_ | refine Below.setCell ?_ (by first | exact Nat.le_refl _ | (simp; done) | (simp; omega)) _))).mono hws) hg' (by simp; omega) (fun j hj => own_block HOW.out hj))
                  have hsm : Sam (Old S wc) wr w' := Sam.old (hbl3.mono hw5)
                  refine ⟨m + 1, hk, Nat.le_refl _, by go_num, ⟨xs ++ tcV u.1 z' (.slice ak u.2.len ck), ?_, ?_⟩, HBL.out.trans hbl3⟩
                  · rw [List.length_map, List.length_range]; exact own'
                  · rw [List.range_succ, List.map_append]
                    refine CelF.app ?_ (HRX.out.sam hsm)
                    rw [List.map_cons, List.map_nil, HU.out]
                    exact (celF_one HK.out).sam hsm
              · have hkm : m = k := by omega
                subst hkm
                have q1 : decide ((m : Int) < (m : Int)) = false := decide_eq_false (by omega)
                have q2 : decide (m < m) = false := decide_eq_false (by omega)
                have pf := (HB.out.past HBW2.out).free 6
                go_wp2
                go_ret
                refine ⟨by rw [HR.out]; rfl, ?_, grown_trans (grown_any HBW2.out) (grown_set _ _ _ _)⟩
                rw [HR.out]
                have hs := (HB.out.past HBW2.out).set 6 (.slice a6 m c6)
                simp only [tcA, List.setIfInBounds_toArray, List.set_cons_zero, List.set_cons_succ] at hs
                have hown : OwnN w5.heap.size (Old S wc) wr (.slice a6 m c6) (sortG (toL t.2)) := by
                  rw [← HFIN.out]
                  exact ⟨xs, by rw [List.length_map, List.length_range]; exact HOW.out, HRX.out⟩
                exact ⟨z, _, hs, (hown.sli (fun k hk => hS2 k (by omega)) (fun k q => q.1)).off hS (grown_set _ _ _ _)⟩
  · have k1 : ((kd : Int) != 3) = true := by simp; omega
    have k2 : ((kd : Int) != 4) = true := by simp; omega
    have hR : sortR t = none := by unfold sortR; rw [if_neg (by rw [HKD.out]; exact fun q => h34 q.1)]
    have HR := hidE hR
    clear hv hb hf hTab hkd hn hkk HTX hR
    go_enter Tryz.func99, Tryz.ntmps99
    go_wp2
    go_ret
    rw [RuleTo, HR.out]
    exact ⟨rfl, ⟨z, _, HB.out, HV.out.mono fun k a _ => a.1⟩, grown_refl _ _⟩
end Go.Proofs.YtioalnncjahlnaaGreatDoor

namespace Go.Proofs.YtioalnncjahlnaaGreatDoor
open Go.ChangeShapes Go.WideShapes Go.ChangeAt Go.RowKit Go.Maps
attribute [local irreducible] Go.Calls

theorem Tryz.keyS : Keyed Tryz.prog 9 := string_keyed Tryz.underlying9
theorem Tryz.zeroI (w : World) : (zeroValue 3).run Tryz.prog w = .ok (.int .i64 0) w := by kernel_rfl
theorem key_strV {l : List UInt8} (h : l.length ≤ 1000000000) : keyOf Tryz.prog 9 (strV l) = some (.string l) := by
  have := WideMaps.keyOf_string_mk (P := Tryz.prog) (k := 9) Tryz.underlying9 (s := ⟨l.toArray⟩) (by unfold maxLen; simp [ByteArray.size]; omega)
  simpa using this
/-- How often each text has come. -/
def CntM (D : DataW Unit) (l : List (List UInt8)) : Prop := IsMap D ∧ ∀ s, D.atKey (.string s) (.lit (.int .i64 0)) = .lit (.int .i64 (l.count s : Nat))
theorem cntM_nil : CntM (.map []) [] := ⟨isMap_empty, fun _s => rfl⟩
theorem CntM.put {D : DataW Unit} {l : List (List UInt8)} (h : CntM D l) (s : List UInt8) {c : Int} (hc : D.atKey (.string s) (.lit (.int .i64 0)) = .lit (.int .i64 c)) (hl : l.length ≤ 1000) : CntM (D.put (.string s) (.lit (.int .i64 (wrap64 (c + 1))))) (l ++ [s]) ∧ c = (l.count s : Nat) := by
  have e := h.2 s
  rw [hc] at e
  have e2 : c = (l.count s : Nat) := by simpa using e
  have hle := List.count_le_length (a := s) (l := l)
  refine ⟨⟨h.1.put _ _, fun s' => ?_⟩, e2⟩
  by_cases hs : s' = s
  · subst hs
    rw [atKey_put_same h.1 (by trivial), e2]
    congr 2
    rw [List.count_append, List.count_singleton_self]
    unfold wrap64; omega
  · rw [atKey_put_other (by simpa using hs), h.2 s']
    congr 3
    rw [List.count_append, List.count_eq_zero_of_not_mem (l := [s]) (by simpa using hs), Nat.add_zero]
theorem SliZ.bar {w w' : World} {v : Value} {l : List (List UInt8)} {B g : Nat} (h : SliZ w v l) (hb : Bar B g w w') (hB : w.heap.size ≤ B) (hg : ∀ k, v.ownBlock = some k → k ≠ g) : SliZ w' v l := by
  obtain ⟨a, cap, rfl, h1, h2, h3⟩ := h
  refine ⟨a, cap, rfl, h1, h2, fun hl => ?_⟩
  obtain ⟨b, off, rfl, g1, g2⟩ := h3 hl
  exact ⟨b, off, rfl, Nat.lt_of_lt_of_le g1 hb.size, fun i hi => (World.cell?_of_block (w := w) (a := ⟨b, _, none⟩) (hb.block b (by omega) (hg b rfl))).trans (g2 i hi)⟩
theorem getD_map_txN {A C : List Tm} {u : Tm} {l : List Tm} (h : A ++ u :: C = l) : (l.map txN).getD A.length [] = txN u := by
  rw [← h, List.getD_eq_getElem?_getD, List.getElem?_map, List.getElem?_append_right (Nat.le_refl _), Nat.sub_self]; rfl
theorem count_txN (A : List Tm) (u : Tm) : ((A.map txN).count (txN u) = 0) ↔ txT u ∉ A.map txT := by
  rw [List.count_eq_zero]
  constructor
  · intro h c
    obtain ⟨v, hv, e⟩ := List.mem_map.1 c
    exact h (List.mem_map.2 ⟨v, hv, by unfold txN; rw [e]⟩)
  · intro h c
    obtain ⟨v, hv, e⟩ := List.mem_map.1 c
    exact h (List.mem_map.2 ⟨v, hv, List.append_cancel_left e⟩)
theorem onceG_set : ∀ (l : List Tm) (s s' : List (List UInt8)), (∀ x, x ∈ s ↔ x ∈ s') → onceG s l = onceG s' l
  | [], _, _, _ => rfl
  | t :: l, s, s', h => by
    have e : s.contains (txT t) = s'.contains (txT t) := by
      cases h1 : s.contains (txT t) <;> cases h2 : s'.contains (txT t) <;> simp_all
    rw [onceG, onceG, e]
    split
    · exact onceG_set l s s' h
    · rw [onceG_set l (txT t :: s) (txT t :: s') (fun x => by simp [h x])]
theorem cnt_once {dm : DataW Unit} {A : List Tm} {u : Tm} {sn : List (List UInt8)} {c c2 : Int} (hC : CntM dm (A.map txN)) (hA : A.length ≤ 16) (hat : dm.atKey (.string (txN u)) (.lit (.int .i64 0)) = .lit (.int .i64 c))
    (hat2 : (dm.put (.string (txN u)) (.lit (.int .i64 (wrap64 (c + 1))))).atKey (.string (txN u)) (.lit (.int .i64 0)) = .lit (.int .i64 c2)) (hsn : ∀ x, x ∈ sn ↔ x ∈ A.map txT) :
    CntM (dm.put (.string (txN u)) (.lit (.int .i64 (wrap64 (c + 1))))) ((A ++ [u]).map txN) ∧ (c2 == 1) = !sn.contains (txT u) := by
  obtain ⟨h1, h2⟩ := hC.put (txN u) hat (by rw [List.length_map]; omega)
  have e := h1.2 (txN u)
  rw [hat2] at e
  have e2 : c2 = (((A.map txN) ++ [txN u]).count (txN u) : Nat) := by simpa using e
  rw [List.count_append, List.count_singleton_self] at e2
  refine ⟨by rw [List.map_append]; exact h1, ?_⟩
  have hc := count_txN A u
  rw [← hsn] at hc
  cases hcon : sn.contains (txT u) with
  | true =>
    have hm : txT u ∈ sn := by simpa using hcon
    have : (A.map txN).count (txN u) ≠ 0 := fun q => hc.1 q hm
    simp; omega
  | false =>
    have hm : txT u ∉ sn := by simpa using hcon
    have := hc.2 hm
    simp; omega
theorem once_fin {t : Tm} (hk : t.1.kind = 3) {D : List Tm} (hD : D = onceG [] (toL t.2)) {b : Bool} (hb : b = decide (D.length < t.2.len)) : (onceR t).isSome = b ∧ (onceR t).getD t = (t.1, ofL D) := by
  subst hD hb
  unfold onceR
  rw [toL_len]
  by_cases h : (onceG [] (toL t.2)).length < t.2.len
  · rw [if_pos ⟨hk, h⟩, decide_eq_true h]; exact ⟨rfl, rfl⟩
  · rw [if_neg (fun q => h q.2), decide_eq_false h]
    refine ⟨rfl, ?_⟩
    have hs := onceG_sub (toL t.2) []
    have e := hs.eq_of_length (by have := hs.length_le; rw [toL_len] at this ⊢; omega)
    rw [e, of_to]; rfl
set_option maxHeartbeats 8000000 in
set_option maxRecDepth 100000 in
theorem unique_c (S : Nat → Prop) (p : Nat) (t : Tm) (w : World) (deep ink : Nat) (hS : ¬ S p) (hS2 : ∀ k, w.heap.size ≤ k → S k) (hT : TermB S w p t) (hf : FitT t deep ink) (hs : sizT t ≤ 64) (hTab : Tab w) :
    Calls Tryz.prog 98 #[.pointer (some ⟨p, 0, none⟩)] w (RuleTo S p (onceR t) t w) := by
  have hmm := @run_makeMap Tryz.prog
  have hlen := fitT_len hf
  have HTX := hidE (fun (w' : World) (hb : Below w.heap.size w w') => texts_c S p t w' deep ink (hT.past hb) hf hs (hTab.past hb))
  obtain ⟨z, v, hb, hv⟩ := hT
  obtain ⟨av, cap, rfl, hc1, hc2⟩ := hv.shape
  obtain ⟨kd, hkd⟩ : ∃ kd, t.1.kind = kd := ⟨_, rfl⟩
  obtain ⟨n, hn⟩ : ∃ n, t.2.len = n := ⟨_, rfl⟩
  have pz := hb.lt
  have hn16 : n ≤ 16 := by omega
  have HB := hidE hb; have HV := hidE hv.old; have HKD := hidE hkd; have HN := hidE hn
  have c0 := hb.cell 0
  simp at c0
  rw [hkd] at c0
  by_cases h3 : kd = 3
  · subst h3
    have k1 : ((3 : Int) != 3) = false := rfl
    clear hv hb hf hTab hkd hn
    obtain ⟨ix, hix, hz0, hzz, hz4⟩ := info_parts Tryz.infoTermN
    have HI := hidE hix; have HZ0 := hidE hz0; have HY1 := hidE hzz; have HY2 := hidE hz4
    clear hix hz0 hzz hz4
    go_enter Tryz.func98, Tryz.ntmps98
    go_wp2_with fail
    obtain ⟨w1, hw1⟩ : ∃ w1, w1 = w.alloc (.map #[] 0) := ⟨_, rfl⟩
    rw [← hw1]
    have hm1 : w1.ownsMap Tryz.prog 9 (plainElem (H := Unit) Tryz.prog 3) w.heap.size 0 (.map []) := by rw [hw1]; exact World.ownsMap_made _ _ _ _
    have hb1 : Below w.heap.size w w1 := by rw [hw1]; (repeat (first | exact Below.refl _ _ | assumption | refine balloc ?_ _ | refine below_drewN ?_ _ | refine bstep (by assumption) ?_ | refine bstep (Past.prop _) ?_ | refine Below.setCell ?_ (by first | exact Nat.le_refl _ | (simp; done) | (simp; omega)) _))
    have hz1 : w1.heap.size = w.heap.size + 1 := by rw [hw1]; simp
    clear hw1
    ((with_reducible refine (HTX.out _ hb1).mono ?_); rintro e w2 ⟨vt, rfl, hz2, hb2, hfr, hsl⟩)
    obtain ⟨L, hL⟩ : ∃ L, L = toL t.2 := ⟨_, rfl⟩
    rw [← hL] at hz2 hsl
    have hLn : L.length = n := by rw [hL, toL_len]; exact HN.out
    obtain ⟨at1, ct1, rfl, ht1, ht2, _⟩ := id hz2
    rw [List.length_map, hLn] at hz2 ht1 hfr ⊢
    have hm2 := hm1.kept (grown_any (r := none) hb2) (by simp)
    have HM2 := hidE hm2; have HZ2 := hidE hz2; have HSL := hidE hsl; have HL := hidE hL
    have HBW := hidE (hb1.trans (hb2.mono hb1.size))
    have hws := hb2.size
    have HFR := hidE (fun k e => show k ≠ w.heap.size from by have := hfr k e; omega)
    clear hm1 hb1 hb2 hm2 hz2 hsl hL hfr HTX
    go_wp2
    go_loopg [4, 18] n (fun gh v4 v18 wr => ∃ (A C D : List Tm) (sn : List (List UInt8)) (dm : DataW Unit), v18 = .int .i64 A.length ∧ A ++ C = L ∧ C.length ≤ gh ∧ OwnN w2.heap.size (Old S w) wr v4 D ∧ D.length ≤ A.length ∧ D ++ onceG sn C = onceG [] L ∧ (∀ x, x ∈ sn ↔ x ∈ A.map txT) ∧
      wr.ownsMap Tryz.prog 9 (plainElem Tryz.prog 3) w.heap.size (2 * A.length) dm ∧ CntM dm (A.map txN) ∧ Bar w2.heap.size w.heap.size w2 wr)
    case atStart => exact ⟨[], L, [], [], .map [], rfl, rfl, by omega, ownN_nil _ _ _, Nat.le_refl _, rfl, fun x => by simp, HM2.out, cntM_nil, Bar.refl _ _ _⟩
    case round =>
      obtain ⟨A, C, D, sn, dm, rfl, hAC, hgh, hown, hDA, hD, hsn, hmap, hcnt, hbar⟩ := hrel
      have HAC := hidE hAC; have HGH := hidE hgh; have HD := hidE hD; have HSN := hidE hsn; have HM := hidE hmap; have HC := hidE hcnt; have HBAR := hidE hbar
      have hAn : A.length + C.length = n := by rw [← hLn, ← hAC, List.length_append]
      have hwr := hbar.size
      have hbw := HBW.out.trans (hbar.below (by omega))
      have HBW2 := hidE hbw
      obtain ⟨xs, ho, hrx⟩ := hown
      obtain ⟨a4, c4, rfl⟩ := own_sli ho
      have HOW := hidE ho; have HRX := hidE hrx
      have b6 := (HB.out.past hbw).cell 6; have bz := (HB.out.past hbw).lt
      simp at b6
      rw [HN.out] at b6
      clear hgh hD hsn hmap hcnt hbar hbw ho hrx
      cases C with
      | nil =>
        have q1 : decide ((A.length : Int) < (n : Int)) = false := decide_eq_false (by simp at hAn; omega)
        have q2 : ¬ A.length < n := by simp at hAn; omega
        have hDD : D = onceG [] (toL t.2) := by have := HD.out; rw [← HL.out]; simpa [onceG] using this
        obtain ⟨bb, hbb⟩ : ∃ bb, bb = decide (D.length < n) := ⟨_, rfl⟩
        have HF := hidE (once_fin HKD.out hDD (b := bb) (by rw [hbb, HN.out]))
        have pf := (HB.out.past HBW2.out).free 6
        have hbb2 : decide ((D.length : Int) < (n : Int)) = bb := by rw [hbb]; simp
        have HBB := hidE hbb
        clear hDD hbb
        go_wp2
        go_ret
        refine ⟨by rw [HF.out.1, HBB.out]; rfl, ?_, grown_trans (grown_any HBW2.out) (grown_set _ _ _ _)⟩
        rw [HF.out.2]
        have hs := (HB.out.past HBW2.out).set 6 (.slice a4 D.length c4)
        simp only [tcA, List.setIfInBounds_toArray, List.set_cons_zero, List.set_cons_succ] at hs
        have hown : OwnN w2.heap.size (Old S w) wr (.slice a4 D.length c4) D := ⟨xs, HOW.out, HRX.out⟩
        exact ⟨z, _, hs, (hown.sli (fun k hk => hS2 k (by omega)) (fun k q => q.1)).off hS (grown_set _ _ _ _)⟩
      | cons u C =>
        have q1 : decide ((A.length : Int) < (n : Int)) = true := decide_eq_true (by simp at hAn; omega)
        have q2 : A.length < n := by simp at hAn; omega
        have hzr := HZ2.out.bar HBAR.out (Nat.le_refl _) HFR.out
        obtain ⟨a9, c9, e, -, -, hzc⟩ := hzr
        simp only [Value.slice.injEq] at e
        obtain ⟨e, -, -⟩ := e
        subst e
        rw [List.length_map, hLn] at hzc
        obtain ⟨b, off, rfl, hbz, hbc⟩ := hzc (by omega)
        have t0 := hbc A.length q2
        rw [getD_map_txN hAC] at t0
        have hu : u ∈ L := by rw [← hAC]; simp
        have hkey := key_strV (HSL.out u hu)
        obtain ⟨bk, ok, capk, z', vk, ek, _, hbkz, hSb, hkv, d0, d1, d2, d3, d4, d5, d6⟩ := (HV.out.sam (Sam.old HBW2.out)).get (i := A.length) (by rw [HN.out]; exact q2)
        cases ek
        rw [getD_toL (hAC.trans HL.out)] at d0 d1 d2 d3 d5 hkv
        obtain ⟨ak, ck, rfl, hk1, hk2⟩ := hkv.shape
        have HK := hidE hkv; have HKEY := hidE hkey
        obtain ⟨s, hse⟩ : ∃ s, s = txN u := ⟨_, rfl⟩
        rw [← hse] at t0
        have HSE := hidE hse
        clear hkv hAC hu hkey hse hzc hbc
        have HNE := hidE (show p ≠ w.heap.size ∧ bk ≠ w.heap.size from ⟨by omega, by have := hSb.2; omega⟩)
        have hd16 : D.length ≤ 16 := by omega
        have HOB := hidE (fun j (hj : (Value.slice a4 D.length c4).ownBlock = some j) => own_block HOW.out hj)
        cases hcon : sn.contains (txT u)
        all_goals
          have HCON := hidE hcon
          clear hcon
          go_wp2_with (first
            | (at_lookup; refine wpList_lookup_own_int _ rfl _ _ 185 rfl 9 3 .i64 Tryz.keyS Tryz.underlying185 Tryz.underlying3 (Tryz.zeroI _) w.heap.size (2 * A.length) dm rfl HM.out _ _ rfl (by rw [HSE.out]; exact HKEY.out) ?_; intro c hat hwc; have HAT := hidE hat; clear hat)
            | (at_lookup; refine wpList_lookup_own_int _ rfl _ _ 185 rfl 9 3 .i64 Tryz.keyS Tryz.underlying185 Tryz.underlying3 (Tryz.zeroI _) w.heap.size (2 * A.length + 1) _ rfl HM5.out _ _ rfl (by rw [HSE.out]; exact HKEY.out) ?_; intro c2 hat2 hwc2; have HCO := hidE (cnt_once HC.out (by omega) HAT.out hat2 HSN.out); have hcc := HCO.out.2; rw [HCON.out] at hcc; simp only [Bool.not_true, Bool.not_false] at hcc; clear hat2)
            | (at_mapUpdate; refine wpList_mapUpdate_own _ rfl _ _ _ 185 rfl 9 3 Tryz.keyS Tryz.underlying185 _ w.heap.size (2 * A.length) dm rfl HM.out (by unfold maxLen; omega) _ _ _ rfl rfl (by rw [HSE.out]; exact HKEY.out) _ [] (plainElem_int Tryz.underlying3 (wrap64_wf _)) ?_; intro w5 hown5 hgrow5; have HM5 := hidE hown5; have HG5 := hidE hgrow5
               have e6 := hgrow5.cell b6 (by have := HNE.out.1; simpa using this)
               have x0 := hgrow5.cell d0 (by have := HNE.out.2; simpa using this); have x1 := hgrow5.cell d1 (by have := HNE.out.2; simpa using this); have x2 := hgrow5.cell d2 (by have := HNE.out.2; simpa using this); have x3 := hgrow5.cell d3 (by have := HNE.out.2; simpa using this); have x4 := hgrow5.cell d4 (by have := HNE.out.2; simpa using this); have x5 := hgrow5.cell d5 (by have := HNE.out.2; simpa using this); have x6 := hgrow5.cell d6 (by have := HNE.out.2; simpa using this)
               have ez := Nat.lt_of_lt_of_le bz hgrow5.size; have xz := Nat.lt_of_lt_of_le hbkz hgrow5.size
               clear hown5 hgrow5)
            | (at_builtin; go_loud (refine list_appV rfl (.tmp 31) (.tmp 39) 77 rfl w2.heap.size 79 ix _ 7 64 Tryz.underlying77 HI.out HZ0.out HY1.out HY2.out rfl (by decide) (.slice a4 D.length c4) D.length xs rfl (own_below (own_grown HOW.out HG5.out (by omega)) (by (repeat (first | exact Below.refl _ _ | assumption | refine balloc ?_ _ | refine below_drewN ?_ _ | refine bstep (by assumption) ?_ | refine bstep (Past.prop _) ?_ | refine Below.setCell ?_ (by first | exact Nat.le_refl _ | (simp; done) | (simp; omega)) _)))) _ 1 (tcV u.1 z' _) rfl (srcV_new (Blk.made_at _ _ _ _ (by first | rfl | (simp; done))) rfl (by intro y hy; simp at hy; rcases hy with rfl | rfl | rfl | rfl | rfl | rfl | rfl <;> rfl)) (by omega) (by omega) (by have := HG5.out.size; simp; omega) ?_); intro v' w' own' hg'; obtain ⟨av', cp', rfl⟩ := own_sli own'))
          go_roundg C.length
          case measure => have := HGH.out; simp only [List.length_cons] at this; omega
          case rel =>
            have h15 : Below w.heap.size wr w5 := Below.grown (Below.refl _ _) HG5.out (by omega) (fun k e => by cases e; exact Nat.le_refl _)
            have bar15 : Bar w2.heap.size w.heap.size wr w5 := ⟨HG5.out.os, HG5.out.tape, HG5.out.output, HG5.out.size, fun k a b => HG5.out.block k (by omega) (by simpa using b)⟩
            have hw5 := HG5.out.size
            have hone : onceG sn (u :: C) = if sn.contains (txT u) then onceG sn C else u :: onceG (txT u :: sn) C := by rw [onceG]
            rw [HCON.out] at hone
            first
              | (have h56 : Below w2.heap.size w5 w' := Below.grown ((show Below w5.heap.size w5 _ from by (repeat (first | exact Below.refl _ _ | assumption | refine balloc ?_ _ | refine below_drewN ?_ _ | refine bstep (by assumption) ?_ | refine bstep (Past.prop _) ?_ | refine Below.setCell ?_ (by first | exact Nat.le_refl _ | (simp; done) | (simp; omega)) _))).mono (by omega)) hg' (by simp; omega) (fun j hj => HOB.out j hj)
                 have hsm : Sam (Old S w) wr w' := Sam.old (h15.trans (h56.mono (by omega)))
                 simp only [Bool.false_eq_true, if_false] at hone
                 refine ⟨A ++ [u], C, D ++ [u], txT u :: sn, _, by simp, by rw [← HAC.out]; simp, Nat.le_refl _, ⟨xs ++ tcV u.1 z' (.slice ak u.2.len ck), by rw [List.length_append]; exact own', CelF.app ((celF_one HK.out).sam hsm) (HRX.out.sam hsm)⟩, by simp; omega, by rw [← HD.out, hone]; simp, fun x => by simp [HSN.out x, or_comm], ((HM5.out.alloc _).kept hg' (fun e => by have := HOB.out _ e.symm; omega)).mono (by simp; omega), HCO.out.1, HBAR.out.trans (bar15.trans (Bar.of h56))⟩)
              | (have hsm : Sam (Old S w) wr w5 := Sam.old h15
                 simp only [if_true] at hone
                 have hin : txT u ∈ sn := by simpa using HCON.out
                 refine ⟨A ++ [u], C, D, sn, _, by simp, by rw [← HAC.out]; simp, Nat.le_refl _, ⟨xs, own_grown HOW.out HG5.out (by omega), HRX.out.sam hsm⟩, by simp; omega, by rw [← HD.out, hone], fun x => ?_, HM5.out.mono (by simp; omega), HCO.out.1, HBAR.out.trans bar15⟩
                 rw [List.map_append, List.mem_append, ← HSN.out x]
                 simp only [List.map_cons, List.map_nil, List.mem_singleton]
                 exact ⟨fun q => .inl q, fun q => q.elim id fun e => by rw [e]; exact hin⟩)
  · have k1 : ((kd : Int) != 3) = true := by simp; omega
    have hR : onceR t = none := by unfold onceR; rw [if_neg (by rw [HKD.out]; exact fun q => h3 q.1)]
    have HR := hidE hR
    clear hv hb hf hTab hkd hn HTX hR
    go_enter Tryz.func98, Tryz.ntmps98
    go_wp2
    go_ret
    rw [RuleTo, HR.out]
    exact ⟨rfl, ⟨z, _, HB.out, HV.out.mono fun k a _ => a.1⟩, grown_refl _ _⟩
end Go.Proofs.YtioalnncjahlnaaGreatDoor

namespace Go.Proofs.YtioalnncjahlnaaGreatDoor
open Go.ChangeShapes Go.WideShapes Go.ChangeAt Go.RowKit
attribute [local irreducible] Go.Calls

theorem run_store_fnN {P : Program} {w : World} {a : Addr} {m : Mode} {f : Fn} {l r : Array Value} : (store a (.func f l r) m).run P w = stored P w a (.func f l r) m := run_store P w a _ m rfl
attribute [local go_sem] run_store_fnN
abbrev rulC : Array Value := #[.func (.func 96) #[] #[], .func (.func 97) #[] #[], .func (.func 98) #[] #[], .func (.func 99) #[] #[]]
set_option maxRecDepth 100000 in
theorem rulesN_c (w : World) : Calls Tryz.prog 74 #[] w fun e w' => e = .returned (.slice (some ⟨w.heap.size, 0, none⟩) 4 4) ∧ Blk w' w.heap.size rulC 146 ∧ Below w.heap.size w w' := by
  go_enter Tryz.func74, Tryz.ntmps74
  go_wp2
  go_ret
  exact ⟨rfl, Blk.made _ _ _, by (repeat (first | exact Below.refl _ _ | assumption | refine balloc ?_ _ | refine below_drewN ?_ _ | refine bstep (by assumption) ?_ | refine bstep (Past.prop _) ?_ | refine Below.setCell ?_ (by first | exact Nat.le_refl _ | (simp; done) | (simp; omega)) _))⟩
/-- What is kept between two rules. -/
structure SetI (S : Nat → Prop) (p deep ink : Nat) (t : Tm) (w : World) (tj : Tm) (wr : World) : Prop where
  nf : nfT tj = nfT t
  fit : FitT tj deep ink
  nrm : Nrm tj.2
  siz : sizT tj ≤ 64
  tm : TermB S wr p tj
  gr : w.grownBy wr (some p)
  ru : Blk wr w.heap.size rulC 146
theorem SetI.step {S : Nat → Prop} {p deep ink : Nat} {t tj u : Tm} {w wr w' : World} (h : SetI S p deep ink t w tj wr) (hp : p < w.heap.size) {r : Option Tm} (hr : r = some u) (ho : oneT tj = some u) (hT : TermB S w' p (r.getD tj)) (hg : wr.grownBy w' (some p)) : SetI S p deep ink t w u w' ∧ mu u < mu tj := by
  subst hr
  have hz := oneT_siz ho
  exact ⟨⟨(nf_some ho).symm.trans h.nf, oneT_fit ho h.fit, oneT_nrm ho h.nrm, Nat.le_trans hz.1 h.siz, hT, grown_trans h.gr hg, h.ru.grown hg (by simp; omega)⟩, hz.2⟩
theorem SetI.stay {S : Nat → Prop} {p deep ink : Nat} {t tj : Tm} {w wr w' : World} (h : SetI S p deep ink t w tj wr) (hp : p < w.heap.size) {r : Option Tm} (hr : r = none) (hT : TermB S w' p (r.getD tj)) (hg : wr.grownBy w' (some p)) : SetI S p deep ink t w tj w' := by
  subst hr
  exact ⟨h.nf, h.fit, h.nrm, h.siz, hT, grown_trans h.gr hg, h.ru.grown hg (by simp; omega)⟩
theorem below_of_grown {w w' : World} {p : Nat} (h : w.grownBy w' (some p)) (hp : p ≤ w.heap.size) : Below p w w' := ⟨h.os, h.tape, h.output, h.size, fun k hk => h.block k (by omega) (by simp; omega)⟩
set_option maxHeartbeats 4000000 in
set_option maxRecDepth 100000 in
theorem settle_c (S : Nat → Prop) (p : Nat) (t : Tm) (w : World) (deep ink : Nat) (hS : ¬ S p) (hS2 : ∀ k, w.heap.size ≤ k → S k) (hT : TermB S w p t) (hf : FitT t deep ink) (hn : Nrm t.2) (hs : sizT t ≤ 64) (hTb : Tb p w) :
    Calls Tryz.prog 53 #[.pointer (some ⟨p, 0, none⟩)] w fun e w' => e = .returned (.tuple #[]) ∧ TermB S w' p (nfT t) ∧ w.grownBy w' (some p) := by
  have pz := hT.lt
  have HT := hidE hT; have HTB := hidE hTb
  have HI0 := hidE (fun (w1 : World) (hb : Below w.heap.size w w1) (hB : Blk w1 w.heap.size rulC 146) => (⟨rfl, hf, hn, hs, hT.past hb, grown_any hb, hB⟩ : SetI S p deep ink t w t w1))
  clear hT hf hn hs hTb
  go_enter Tryz.func53, Tryz.ntmps53
  go_wp2
  go_step3
  go_wp2_with (go_at_call 74; (with_reducible refine (rulesN_c _).mono ?_); rintro e w1 ⟨rfl, hB0, hb1⟩; have HI := hidE (HI0.out _ hb1 hB0); clear hB0 hb1 HI0)
  go_step3
  go_wp2
  go_loopg [] (mu t) (fun gh wr => ∃ tj, mu tj ≤ gh ∧ SetI S p deep ink t w tj wr)
  case atStart => exact ⟨t, Nat.le_refl _, HI.out⟩
  case round =>
    clear HI
    obtain ⟨tj, hgh, hsi⟩ := hrel
    have HGH := hidE hgh; have HSI := hidE hsi
    clear hgh hsi
    go_wp2
    go_loopg [8] 4 (fun g2 v8 wi => ∃ k : Nat, k ≤ 4 ∧ 4 - k ≤ g2 ∧ v8 = .int .i64 k ∧ SetI S p deep ink t w tj wi ∧ (1 ≤ k → oneR tj = none) ∧ (2 ≤ k → flatR tj = none) ∧ (3 ≤ k → onceR tj = none) ∧ (4 ≤ k → sortR tj = none))
    case atStart => exact ⟨0, by omega, by omega, rfl, HSI.out, fun h => by omega, fun h => by omega, fun h => by omega, fun h => by omega⟩
    case round =>
      clear HSI
      obtain ⟨k, hk4, hg2, rfl, hsi, hno⟩ := hrel
      have HG2 := hidE hg2; have HSI := hidE hsi; have HNO := hidE hno
      have HOR := hidE (oneT_rules hsi.fit hsi.nrm)
      have HTM := hidE hsi.tm
      have hbp := below_of_grown hsi.gr (Nat.le_of_lt pz)
      have tb := HTB.out.below hbp
      have HTAB := hidE (show Tab wr from ⟨tb.pow, tb.words⟩)
      have rz := hsi.ru.lt
      clear hg2 hsi hno hbp tb
      by_cases hk : k < 4
      · rcases (show k = 0 ∨ k = 1 ∨ k = 2 ∨ k = 3 by omega) with rfl | rfl | rfl | rfl
        · have g0 : wr.cell? ⟨w.heap.size, 0, none⟩ = some (.func (.func 96) #[] #[]) := HSI.out.ru.cell 0
          have HC := hidE (unwrap_c S p tj _ hS HTM.out)
          go_wp2_with fail
          ((with_reducible refine HC.out.mono ?_); rintro e w5 ⟨rfl, hT5, hg5⟩)
          cases hsome : oneR tj with
          | some u =>
            have ho : oneT tj = some u := by rw [HOR.out]; simp only [hsome]
            have HST := hidE (HSI.out.step pz hsome ho hT5 hg5)
            rw [hsome] at *
            clear hT5 hg5 HC g0
            go_wp2
            go_roundg (mu u)
            case measure => have := HST.out.2; have := HGH.out; omega
            case rel => exact ⟨u, Nat.le_refl _, HST.out.1⟩
          | none =>
            have HST := hidE (HSI.out.stay pz hsome hT5 hg5)
            have HNN := hidE hsome
            clear hT5 hg5 HC g0
            go_wp2
            go_roundg (4 - 1)
            case measure => have := HG2.out; omega
            case rel => exact ⟨1, by omega, Nat.le_refl _, by go_num, HST.out, fun _ => HNN.out, fun h => by omega, fun h => by omega, fun h => by omega⟩
        · have g0 : wr.cell? ⟨w.heap.size, 1, none⟩ = some (.func (.func 97) #[] #[]) := HSI.out.ru.cell 1
          have HC := hidE (flatten_c S p tj _ hS (fun k hk => hS2 k (by have := HSI.out.gr.size; omega)) HTM.out (fitT_len HSI.out.fit) (fun u hu => fitT_len (fitT_kid HSI.out.fit hu)))
          go_wp2_with fail
          ((with_reducible refine HC.out.mono ?_); rintro e w5 ⟨rfl, hT5, hg5⟩)
          have hn0 := HNO.out.1 (by omega)
          cases hsome : flatR tj with
          | some u =>
            have ho : oneT tj = some u := by rw [HOR.out]; simp only [hn0, hsome]
            have HST := hidE (HSI.out.step pz hsome ho hT5 hg5)
            rw [hsome] at *
            clear hT5 hg5 HC g0
            go_wp2
            go_roundg (mu u)
            case measure => have := HST.out.2; have := HGH.out; omega
            case rel => exact ⟨u, Nat.le_refl _, HST.out.1⟩
          | none =>
            have HST := hidE (HSI.out.stay pz hsome hT5 hg5)
            have HNN := hidE hsome
            clear hT5 hg5 HC g0
            go_wp2
            go_roundg (4 - 2)
            case measure => have := HG2.out; omega
            case rel => exact ⟨2, by omega, Nat.le_refl _, by go_num, HST.out, fun _ => HNO.out.1 (by omega), fun _ => HNN.out, fun h => by omega, fun h => by omega⟩
        · have g0 : wr.cell? ⟨w.heap.size, 2, none⟩ = some (.func (.func 98) #[] #[]) := HSI.out.ru.cell 2
          have HC := hidE (unique_c S p tj _ deep ink hS (fun k hk => hS2 k (by have := HSI.out.gr.size; omega)) HTM.out HSI.out.fit HSI.out.siz HTAB.out)
          go_wp2_with fail
          ((with_reducible refine HC.out.mono ?_); rintro e w5 ⟨rfl, hT5, hg5⟩)
          have hn0 := HNO.out.1 (by omega)
          have hn1 := HNO.out.2.1 (by omega)
          cases hsome : onceR tj with
          | some u =>
            have ho : oneT tj = some u := by rw [HOR.out]; simp only [hn0, hn1, hsome]
            have HST := hidE (HSI.out.step pz hsome ho hT5 hg5)
            rw [hsome] at *
            clear hT5 hg5 HC g0
            go_wp2
            go_roundg (mu u)
            case measure => have := HST.out.2; have := HGH.out; omega
            case rel => exact ⟨u, Nat.le_refl _, HST.out.1⟩
          | none =>
            have HST := hidE (HSI.out.stay pz hsome hT5 hg5)
            have HNN := hidE hsome
            clear hT5 hg5 HC g0
            go_wp2
            go_roundg (4 - 3)
            case measure => have := HG2.out; omega
            case rel => exact ⟨3, by omega, Nat.le_refl _, by go_num, HST.out, fun _ => HNO.out.1 (by omega), fun _ => HNO.out.2.1 (by omega), fun _ => HNN.out, fun h => by omega⟩
        · have g0 : wr.cell? ⟨w.heap.size, 3, none⟩ = some (.func (.func 99) #[] #[]) := HSI.out.ru.cell 3
          have HC := hidE (sort_c S p tj _ deep ink hS (fun k hk => hS2 k (by have := HSI.out.gr.size; omega)) HTM.out HSI.out.fit HSI.out.siz HTAB.out)
          go_wp2_with fail
          ((with_reducible refine HC.out.mono ?_); rintro e w5 ⟨rfl, hT5, hg5⟩)
          have hn0 := HNO.out.1 (by omega)
          have hn1 := HNO.out.2.1 (by omega)
          have hn2 := HNO.out.2.2.1 (by omega)
          cases hsome : sortR tj with
          | some u =>
            have ho : oneT tj = some u := by rw [HOR.out]; simp only [hn0, hn1, hn2]; exact hsome
            have HST := hidE (HSI.out.step pz hsome ho hT5 hg5)
            rw [hsome] at *
            clear hT5 hg5 HC g0
            go_wp2
            go_roundg (mu u)
            case measure => have := HST.out.2; have := HGH.out; omega
            case rel => exact ⟨u, Nat.le_refl _, HST.out.1⟩
          | none =>
            have HST := hidE (HSI.out.stay pz hsome hT5 hg5)
            have HNN := hidE hsome
            clear hT5 hg5 HC g0
            go_wp2
            go_roundg (4 - 4)
            case measure => have := HG2.out; omega
            case rel => exact ⟨4, by omega, Nat.le_refl _, by go_num, HST.out, fun _ => HNO.out.1 (by omega), fun _ => HNO.out.2.1 (by omega), fun _ => HNO.out.2.2.1 (by omega), fun _ => HNN.out⟩
      · have hk' : k = 4 := by omega
        subst hk'
        have hnone : oneT tj = none := by
          rw [HOR.out, HNO.out.1 (by omega), HNO.out.2.1 (by omega), HNO.out.2.2.1 (by omega)]
          exact HNO.out.2.2.2 (by omega)
        have hnf : nfT t = tj := by rw [← HSI.out.nf, nf_none hnone]
        have HNF := hidE hnf
        clear hnone hnf
        go_wp2
        rw [Exit.noGoto_ret]
        refine bodyPost_ret (results_none rfl _ _ _) rfl ?_
        exact ⟨rfl, by rw [HNF.out]; exact HSI.out.tm, HSI.out.gr⟩
end Go.Proofs.YtioalnncjahlnaaGreatDoor

namespace Go.Proofs.YtioalnncjahlnaaGreatDoor
open Go.ChangeShapes Go.WideShapes Go.ChangeAt Go.RowKit
attribute [local irreducible] Go.Calls

/-- Parts that hold a place, up to one of them. -/
def depN (l : List Prt) (p k : Nat) : Nat := ((List.range k).filter fun i => decide (p < endS l i)).length
theorem depN_succ (l : List Prt) (p k : Nat) : depN l p (k + 1) = depN l p k + (if p < endS l k then 1 else 0) := by
  unfold depN
  rw [List.range_succ, List.filter_append, List.length_append]
  by_cases h : p < endS l k
  · simp [h]
  · simp [h]
theorem depN_le (l : List Prt) (p k : Nat) : depN l p k ≤ k := by
  unfold depN
  exact Nat.le_trans (List.length_filter_le _ _) (by simp)
set_option maxHeartbeats 1000000 in
theorem rdepth_c (l : List Prt) (p : Nat) (a : Option Addr) (cap : Nat) (w : World) (hl : l.length ≤ 1000000000) (hp : p < l.length) (hA : ArgP w a l) :
    Calls Tryz.prog 7 #[.slice a l.length cap, .int .i64 p] w fun e w' => e = .returned (.int .i64 (depthS l p)) ∧ Below w.heap.size w w' := by
  have HA := hidE hA
  have HE := hidE (fun q w' hq hb => rend_c l q a cap w' hl hq (HA.out.past hb))
  clear hA
  go_enter Tryz.func7, Tryz.ntmps7
  go_wp2
  go_loopg [5, 6] (p + 1) (fun gh v5 v6 wr => ∃ k : Nat, k ≤ p + 1 ∧ p + 1 - k ≤ gh ∧ v6 = .int .i64 k ∧ v5 = .int .i64 (depN l p k) ∧ Below w.heap.size w wr)
  case atStart => exact ⟨0, Nat.zero_le _, Nat.le_refl _, rfl, rfl, Below.refl _ _⟩
  case round =>
    obtain ⟨k, hkk, hgh, rfl, rfl, hb⟩ := hrel
    have HB := hidE hb; have HG := hidE hgh
    clear hb hgh
    have hdl := depN_le l p k
    by_cases hlt : k ≤ p
    · have r1 : decide ((k : Int) ≤ (p : Int)) = true := decide_eq_true (by omega)
      have r2 : decide (k ≤ p) = true := decide_eq_true hlt
      have HD := hidE (depN_succ l p k)
      have HC := hidE (fun w' hb => HE.out k w' (by omega) hb)
      generalize depN l p k = n at *
      by_cases hpe : p < endS l k
      · rw [if_pos hpe] at HD
        have s1 : decide ((p : Int) < (endS l k : Int)) = true := decide_eq_true (by omega)
        have s2 : decide (p < endS l k) = true := decide_eq_true hpe
        generalize endS l k = q at *
        go_wp2_with (go_at_call 24; (with_reducible refine (HC.out _ HB.out).mono ?_); rintro e w2 ⟨rfl, hb2⟩)
        go_roundg (p + 1 - (k + 1))
        case measure => have := HG.out; omega
        case rel => exact ⟨k + 1, by omega, Nat.le_refl _, by go_num, by rw [HD.out]; go_num, HB.out.trans (hb2.mono HB.out.size)⟩
      · rw [if_neg hpe, Nat.add_zero] at HD
        have s1 : decide ((p : Int) < (endS l k : Int)) = false := decide_eq_false (by omega)
        have s2 : decide (p < endS l k) = false := decide_eq_false hpe
        generalize endS l k = q at *
        go_wp2_with (go_at_call 24; (with_reducible refine (HC.out _ HB.out).mono ?_); rintro e w2 ⟨rfl, hb2⟩)
        go_roundg (p + 1 - (k + 1))
        case measure => have := HG.out; omega
        case rel => exact ⟨k + 1, by omega, Nat.le_refl _, by go_num, by rw [HD.out]; rfl, HB.out.trans (hb2.mono HB.out.size)⟩
    · have r1 : decide ((k : Int) ≤ (p : Int)) = false := decide_eq_false (by omega)
      have r2 : decide (k ≤ p) = false := decide_eq_false hlt
      obtain rfl : k = p + 1 := by omega
      go_wp2
      go_ret
      exact ⟨rfl, HB.out⟩
/-- The atoms ahead of a place. -/
def atmN (l : List Prt) (k : Nat) : List Nat := (List.range k).filter fun i => decide ((l.getD i ⟨0, 0, 0, 0, 0⟩).kind = 0)
theorem atmN_succ (l : List Prt) (k : Nat) : atmN l (k + 1) = atmN l k ++ (if (l.getD k ⟨0, 0, 0, 0, 0⟩).kind = 0 then [k] else []) := by
  unfold atmN
  rw [List.range_succ, List.filter_append]
  by_cases h : (l.getD k ⟨0, 0, 0, 0, 0⟩).kind = 0
  · simp only [h, if_true, List.filter_cons, decide_true, List.filter_nil]
  · simp only [h, if_false, List.filter_cons, decide_false, List.filter_nil, Bool.false_eq_true]
theorem atmN_len (l : List Prt) (k : Nat) : (atmN l k).length ≤ k := by
  unfold atmN
  exact Nat.le_trans (List.length_filter_le _ _) (by simp)
theorem natsI_get {l : List Nat} {i : Nat} (h : i < l.length) : (natsI l).getD i 0 = ((l.getD i 0 : Nat) : Int) := by
  unfold natsI
  rw [List.getD_eq_getElem?_getD, List.getElem?_map, List.getElem?_eq_getElem h, List.getD_eq_getElem?_getD, List.getElem?_eq_getElem h]
  rfl
/-- Are two lists of places the same? -/
def sameN (l r : List Nat) : Bool := decide (l = r)
theorem sameN_ext {l r : List Nat} (h : l.length = r.length) (h2 : ∀ i, i < l.length → l.getD i 0 = r.getD i 0) : sameN l r = true := by
  refine decide_eq_true (List.ext_getElem h fun i h3 h4 => ?_)
  have := h2 i h3
  rwa [List.getD_eq_getElem?_getD, List.getElem?_eq_getElem h3, List.getD_eq_getElem?_getD, List.getElem?_eq_getElem h4] at this
set_option maxHeartbeats 1000000 in
theorem rsame8_c (l r : List Nat) (a a2 : Option Addr) (cap cap2 : Nat) (w : World) (hl : l.length ≤ 1000000000) (_hr : r.length ≤ 1000000000) (hA : ArgK .i64 w a (natsI l)) (hA2 : ArgK .i64 w a2 (natsI r)) :
    Calls Tryz.prog 45 #[.slice a l.length cap, .slice a2 r.length cap2] w fun e w' => e = .returned (.bool (sameN l r)) ∧ Below w.heap.size w w' := by
  by_cases hlen : l.length = r.length
  · have q1 : ((l.length : Int) != (r.length : Int)) = false := by rw [bne_eq_false_iff_eq]; omega
    have HL := hidE hlen
    have HA := hidE hA; have HA2 := hidE hA2
    clear hA hA2
    go_enter Tryz.func45, Tryz.ntmps45
    go_wp2
    go_loopg [5] l.length (fun gh v5 wr => ∃ k : Nat, k ≤ l.length ∧ l.length - k ≤ gh ∧ v5 = .int .i64 k ∧ (∀ i, i < k → l.getD i 0 = r.getD i 0) ∧ Below w.heap.size w wr)
    case atStart => exact ⟨0, Nat.zero_le _, Nat.le_refl _, rfl, fun i h => by omega, Below.refl _ _⟩
    case round =>
      obtain ⟨k, hkk, hgh, rfl, hall, hb⟩ := hrel
      have HB := hidE hb; have HG := hidE hgh; have HALL := hidE hall
      clear hb hgh hall
      by_cases hlt : k < l.length
      · obtain ⟨b, off, rfl, hbb, hc⟩ := (HA.out.past HB.out) (by rw [natsI_len]; omega)
        obtain ⟨b2, off2, rfl, hbb2, hc2⟩ := (HA2.out.past HB.out) (by rw [natsI_len]; omega)
        have c0 := hc k (by rw [natsI_len]; exact hlt)
        have c1 := hc2 k (by rw [natsI_len]; omega)
        rw [natsI_get hlt] at c0
        rw [natsI_get (by omega)] at c1
        have r1 : decide ((k : Int) < (l.length : Int)) = true := decide_eq_true (by omega)
        have r2 : decide (k < l.length) = true := decide_eq_true hlt
        have r3 : (k : Int) < (r.length : Int) := by omega
        have r4 : k < r.length := by omega
        clear hc hc2
        by_cases he : l.getD k 0 = r.getD k 0
        · have HNX := hidE (show ∀ i, i < k + 1 → l.getD i 0 = r.getD i 0 from fun i hi => by
            by_cases c : i = k
            · rw [c]; exact he
            · exact HALL.out i (by omega))
          have s1 : (((l.getD k 0 : Nat) : Int) != ((r.getD k 0 : Nat) : Int)) = false := by rw [bne_eq_false_iff_eq, he]
          clear he
          generalize l.getD k 0 = x at *
          generalize r.getD k 0 = y at *
          go_wp2
          go_quiet (fail)
          go_wp2
          go_roundg (l.length - (k + 1))
          case measure => have := HG.out; omega
          case rel => exact ⟨k + 1, by omega, Nat.le_refl _, by go_num, HNX.out, by have := HB.out; (repeat (first | exact Below.refl _ _ | assumption | refine balloc ?_ _ | refine below_drewN ?_ _ | refine bstep (by assumption) ?_ | refine bstep (Past.prop _) ?_ | refine Below.setCell ?_ (by first | exact Nat.le_refl _ | (simp; done) | (simp; omega)) _))⟩
        · have s1 : (((l.getD k 0 : Nat) : Int) != ((r.getD k 0 : Nat) : Int)) = true := by rw [bne_iff_ne]; omega
          have HN := hidE (show sameN l r = false from decide_eq_false fun e => he (by rw [e]))
          clear he
          generalize l.getD k 0 = x at *
          generalize r.getD k 0 = y at *
          go_wp2
          go_quiet (fail)
          go_wp2
          go_ret
          exact ⟨by rw [HN.out]; rfl, by have := HB.out; (repeat (first | exact Below.refl _ _ | assumption | refine balloc ?_ _ | refine below_drewN ?_ _ | refine bstep (by assumption) ?_ | refine bstep (Past.prop _) ?_ | refine Below.setCell ?_ (by first | exact Nat.le_refl _ | (simp; done) | (simp; omega)) _))⟩
      · have r1 : decide ((k : Int) < (l.length : Int)) = false := decide_eq_false (by omega)
        have r2 : decide (k < l.length) = false := decide_eq_false hlt
        obtain rfl : k = l.length := by omega
        have HY := hidE (sameN_ext HL.out HALL.out)
        go_wp2
        go_ret
        exact ⟨by rw [HY.out]; rfl, HB.out⟩
  · have q1 : ((l.length : Int) != (r.length : Int)) = true := by rw [bne_iff_ne]; omega
    have HN := hidE (show sameN l r = false from decide_eq_false fun e => hlen (by rw [e]))
    rw [HN.out]
    clear HN hlen hA hA2
    go_enter Tryz.func45, Tryz.ntmps45
    go_wp2
    go_ret
    exact ⟨rfl, Below.refl _ _⟩
end Go.Proofs.YtioalnncjahlnaaGreatDoor

namespace Go.Proofs.YtioalnncjahlnaaGreatDoor

abbrev prN (l : List Prt) (i : Nat) : Prt := l.getD i ⟨0, 0, 0, 0, 0⟩
theorem stop_le {l : List Prt} {p deep deep' ink ink' : Nat} (h : stopS l p deep ink = none) (hd : deep' ≤ deep) (hi : ink' = 2 → ink = 2) : stopS l p deep' ink' = none := by
  obtain ⟨h1, h2, h3, h4, h5⟩ := stop_none h
  rw [stop_deep h1 (by
    rintro (c | c | ⟨c, c2⟩)
    · omega
    · rw [h3] at c; cases c
    · exact c2 (h4 (hi c)))]
  exact if_neg (by omega)
theorem rd_mono : ∀ (m : Nat) (l : List Prt) (p deep deep' ink ink' n e : Nat), rdS m l p deep ink n = .ok e → deep' ≤ deep → (ink' = 2 → ink = 2) → rdS m l p deep' ink' n = .ok e
  | m, l, p, deep, deep', ink, ink', 0, e, h, _, _ => by rw [rd_zero] at h ⊢; exact h
  | 0, l, p, deep, deep', ink, ink', n + 1, e, h, _, _ => by cases h
  | m + 1, l, p, deep, deep', ink, ink', n + 1, e, h, hd, hi => by
    rw [rd_cons] at h ⊢
    cases hst : stopS l p deep ink with
    | some x => rw [hst] at h; cases h
    | none =>
      rw [hst] at h
      rw [stop_le hst hd hi]
      simp only at h ⊢
      cases hk : rdS m l (p + 1) (deep + 1) (prN l p).kind (prN l p).kids.toNat with
      | error x => rw [hk] at h; cases h
      | ok q =>
        rw [hk] at h
        rw [rd_mono m l _ _ (deep' + 1) _ _ _ _ hk (by omega) id]
        exact rd_mono m l _ _ _ _ _ _ _ h hd hi
theorem end_of {m : Nat} {l : List Prt} {p deep ink e : Nat} (h : rdS m l p deep ink 1 = .ok e) (hd : 1 ≤ deep) : endS l p = e := by
  have h1 := rd_ext m (l.length + 1) l l p deep ink 1 e h (fun _ _ => rfl) (by omega) (by omega)
  unfold endS
  rw [rd_mono _ _ _ _ 1 _ 0 _ _ h1 hd (fun c => by cases c)]
  rfl
theorem kidAt_next (l : List Prt) (p : Nat) : ∀ k, kidAt l p (k + 1) = kidAt l (endS l p) k
  | 0 => rfl
  | k + 1 => by
    rw [kidAt, kidAt_next l p k]
    rfl
/-- The children's ends make a chain up to the end. -/
theorem chain_of : ∀ (n m : Nat) (l : List Prt) (p deep ink e : Nat), rdS m l p deep ink n = .ok e → 1 ≤ deep → kidAt l p n = e ∧ ∀ k, k < n → kidAt l p k < e
  | 0, m, l, p, deep, ink, e, h, _ => by rw [rd_zero] at h; cases h; exact ⟨rfl, fun k hk => by omega⟩
  | n + 1, m, l, p, deep, ink, e, h, hd => by
    have h' := rd_ext m (l.length + 1) l l p deep ink (n + 1) e h (fun _ _ => rfl) (by omega) (by omega)
    rw [rd_one (by omega) (by omega)] at h'
    cases h1 : rdS (l.length + 1) l p deep ink 1 with
    | error x => rw [h1] at h'; cases h'
    | ok q =>
      rw [h1] at h'
      simp only at h'
      have hq := end_of h1 hd
      have g1 := rd_gt _ _ _ _ _ _ _ h1
      have g2 := rd_gt _ _ _ _ _ _ _ h'
      obtain ⟨c1, c2⟩ := chain_of n _ l q deep ink e h' hd
      refine ⟨by rw [kidAt_next, hq]; exact c1, fun k hk => ?_⟩
      cases k with
      | zero => show p < e; omega
      | succ k => rw [kidAt_next, hq]; exact c2 k (by omega)
/-- So many parts from one place on, ahead of another one, hold it. -/
def ancS (l : List Prt) (i : Nat) : Nat → Nat → Nat
  | _, 0 => 0
  | p, n + 1 => (if i < endS l p then 1 else 0) + ancS l i (p + 1) n
theorem anc_none (l : List Prt) (i : Nat) : ∀ (n p : Nat), (∀ a, p ≤ a → a < p + n → endS l a ≤ i) → ancS l i p n = 0
  | 0, p, _ => rfl
  | n + 1, p, h => by
    rw [ancS, if_neg (by have := h p (Nat.le_refl _) (by omega); omega), anc_none l i n (p + 1) (fun a h1 h2 => h a (by omega) (by omega))]
theorem anc_add (l : List Prt) (i : Nat) : ∀ (n m p : Nat), ancS l i p (n + m) = ancS l i p n + ancS l i (p + n) m
  | 0, m, p => by simp [ancS]
  | n + 1, m, p => by
    rw [show n + 1 + m = (n + m) + 1 by omega, ancS, ancS, anc_add l i n m (p + 1), show p + 1 + n = p + (n + 1) by omega]
    omega
/-- How parts that are read hang together. -/
theorem rd_hang : ∀ (m : Nat) (l : List Prt) (p deep ink n e : Nat), rdS m l p deep ink n = .ok e → 1 ≤ deep → ∀ i, p ≤ i → i < e →
    i < endS l i ∧ endS l i ≤ e ∧ (∀ a, i ≤ a → a < endS l i → endS l a ≤ endS l i) ∧ kidAt l (i + 1) (prN l i).kids.toNat = endS l i ∧ (∀ k, k < (prN l i).kids.toNat → kidAt l (i + 1) k < endS l i) ∧ deep + ancS l i p (i - p) ≤ 8
  | m, l, p, deep, ink, 0, e, h, _, i, h1, h2 => by rw [rd_zero] at h; cases h; omega
  | 0, l, p, deep, ink, n + 1, e, h, _, i, h1, h2 => by cases h
  | m + 1, l, p, deep, ink, n + 1, e, h, hd, i, h1, h2 => by
    rw [rd_cons] at h
    cases hst : stopS l p deep ink with
    | some x => rw [hst] at h; cases h
    | none =>
      rw [hst] at h
      simp only at h
      cases hk : rdS m l (p + 1) (deep + 1) (prN l p).kind (prN l p).kids.toNat with
      | error x => rw [hk] at h; cases h
      | ok q =>
        rw [hk] at h
        simp only at h
        have gk := rd_gt _ _ _ _ _ _ _ hk
        have gn := rd_gt _ _ _ _ _ _ _ h
        have hEp : endS l p = q := end_of (m := m + 1) (deep := deep) (ink := ink) (by rw [rd_cons, hst]; simp only [hk, rd_zero]) hd
        have IHk := rd_hang m l _ _ _ _ _ hk (by omega)
        have IHn := rd_hang m l _ _ _ _ _ h hd
        by_cases c : i = p
        · subst c
          obtain ⟨c1, c2⟩ := chain_of _ _ _ _ _ _ _ hk (by omega)
          refine ⟨by omega, by omega, fun a ha1 ha2 => ?_, by rw [hEp]; exact c1, fun k hk2 => by rw [hEp]; exact c2 k hk2, ?_⟩
          · by_cases ca : a = i
            · rw [ca]; exact Nat.le_refl _
            · rw [hEp] at ha2 ⊢
              exact (IHk a (by omega) ha2).2.1
          · rw [Nat.sub_self]; exact (stop_none hst).2.2.2.2
        · by_cases c2 : i < q
          · obtain ⟨a1, a2, a3, a4, a5, a6⟩ := IHk i (by omega) c2
            refine ⟨a1, by omega, a3, a4, a5, ?_⟩
            rw [show i - p = (i - (p + 1)) + 1 by omega, ancS, if_pos (by omega)]
            omega
          · obtain ⟨a1, a2, a3, a4, a5, a6⟩ := IHn i (by omega) h2
            refine ⟨a1, a2, a3, a4, a5, ?_⟩
            rw [show i - p = (q - p) + (i - q) by omega, anc_add, show p + (q - p) = q by omega]
            have hz : ancS l i p (q - p) = 0 := anc_none l i _ _ (fun a ha1 ha2 => by
              by_cases ca : a = p
              · rw [ca, hEp]; omega
              · have := (IHk a (by omega) (by omega)).2.1; omega)
            omega
/-- What a definition that may be says of its parts. -/
structure Hang (l : List Prt) : Prop where
  up : ∀ i, i < l.length → i < endS l i ∧ endS l i ≤ l.length
  inn : ∀ i a, i < l.length → i ≤ a → a < endS l i → endS l a ≤ endS l i
  chain : ∀ i, i < l.length → kidAt l (i + 1) (prN l i).kids.toNat = endS l i
  kid : ∀ i k, i < l.length → k < (prN l i).kids.toNat → kidAt l (i + 1) k < endS l i
  deep : ∀ i, i < l.length → 1 + ancS l i 0 i ≤ 8
  all : endS l 0 = l.length
theorem tree_hang {l : List Prt} (h : (treeS l).2 = 0) : Hang l := by
  have hr := tree_fine h
  have hh := rd_hang _ _ _ _ _ _ _ hr (Nat.le_refl _)
  exact ⟨fun i hi => ⟨(hh i (Nat.zero_le _) hi).1, (hh i (Nat.zero_le _) hi).2.1⟩, fun i a hi => (hh i (Nat.zero_le _) hi).2.2.1 a, fun i hi => (hh i (Nat.zero_le _) hi).2.2.2.1, fun i k hi => (hh i (Nat.zero_le _) hi).2.2.2.2.1 k, fun i hi => by have := (hh i (Nat.zero_le _) hi).2.2.2.2.2; simpa using this, end_of hr (Nat.le_refl _)⟩
end Go.Proofs.YtioalnncjahlnaaGreatDoor

namespace Go.Proofs.YtioalnncjahlnaaGreatDoor

theorem depN_anc (l : List Prt) (p : Nat) : ∀ k, depN l p k = ancS l p 0 k
  | 0 => rfl
  | k + 1 => by rw [depN_succ, depN_anc l p k, anc_add l p k 1 0]; simp [ancS]
theorem depth_anc {l : List Prt} (h : Hang l) {p : Nat} (hp : p < l.length) : depthS l p = ancS l p 0 p + 1 := by
  have : depthS l p = depN l p (p + 1) := rfl
  rw [this, depN_anc, anc_add l p p 1 0]
  simp only [ancS, Nat.zero_add]
  rw [if_pos (h.up p hp).1]
theorem depth_le {l : List Prt} (h : Hang l) {p : Nat} (hp : p < l.length) : 1 ≤ depthS l p ∧ depthS l p ≤ 8 := by
  have := h.deep p hp
  rw [depth_anc h hp]; omega
theorem anc_congr (l : List Prt) (i j : Nat) : ∀ (n p : Nat), (∀ a, p ≤ a → a < p + n → (i < endS l a ↔ j < endS l a)) → ancS l i p n = ancS l j p n
  | 0, p, _ => rfl
  | n + 1, p, h => by
    rw [ancS, ancS, anc_congr l i j n (p + 1) (fun a h1 h2 => h a (by omega) (by omega))]
    have := h p (Nat.le_refl _) (by omega)
    by_cases c : i < endS l p
    · rw [if_pos c, if_pos (this.1 c)]
    · rw [if_neg c, if_neg (fun d => c (this.2 d))]
/-- A child: behind its part, within it, and in nothing between. -/
def IsKid (l : List Prt) (i c : Nat) : Prop := i < c ∧ c < endS l i ∧ ∀ a, i < a → a < c → endS l a ≤ c
theorem depth_kid {l : List Prt} (h : Hang l) {i c : Nat} (hi : i < l.length) (hk : IsKid l i c) : depthS l c = depthS l i + 1 := by
  have hc : c < l.length := Nat.lt_of_lt_of_le hk.2.1 (h.up i hi).2
  rw [depth_anc h hc, show depthS l i = depN l i (i + 1) from rfl, depN_anc, show ancS l c 0 c = ancS l c 0 ((i + 1) + (c - (i + 1))) by rw [show i + 1 + (c - (i + 1)) = c by have := hk.1; omega], anc_add]
  rw [anc_none l c (c - (i + 1)) (0 + (i + 1)) (fun a h1 h2 => hk.2.2 a (by omega) (by omega))]
  rw [anc_congr l c i (i + 1) 0 (fun a h1 h2 => ⟨fun h3 => by have := hk.1; omega, fun h3 => by
    have := h.inn a i (by omega) (by omega) h3
    have := hk.2.1; omega⟩)]
theorem kidAt_ge {l : List Prt} (h : Hang l) {i : Nat} (hi : i < l.length) : ∀ k, k ≤ (prN l i).kids.toNat → i + 1 + k ≤ kidAt l (i + 1) k
  | 0, _ => Nat.le_refl _
  | k + 1, hk => by
    have h1 := kidAt_ge h hi k (by omega)
    have h2 := h.kid i k hi (by omega)
    have h3 := (h.up i hi).2
    have h4 := (h.up (kidAt l (i + 1) k) (by omega)).1
    show i + 1 + (k + 1) ≤ endS l (kidAt l (i + 1) k)
    omega
theorem kid_between {l : List Prt} (h : Hang l) {i : Nat} (hi : i < l.length) : ∀ k, k ≤ (prN l i).kids.toNat → ∀ a, i < a → a < kidAt l (i + 1) k → endS l a ≤ kidAt l (i + 1) k
  | 0, _, a, h1, h2 => by simp only [kidAt] at h2; omega
  | k + 1, hk, a, h1, h2 => by
    have h3 := h.kid i k hi (by omega)
    have h4 := (h.up i hi).2
    have h5 := (h.up (kidAt l (i + 1) k) (by omega)).1
    show endS l a ≤ endS l (kidAt l (i + 1) k)
    by_cases c : a < kidAt l (i + 1) k
    · have := kid_between h hi k (by omega) a h1 c; omega
    · exact h.inn _ a (by omega) (by omega) h2
theorem kid_is {l : List Prt} (h : Hang l) {i k : Nat} (hi : i < l.length) (hk : k < (prN l i).kids.toNat) : IsKid l i (kidAt l (i + 1) k) :=
  ⟨by have := kidAt_ge h hi k (by omega); omega, h.kid i k hi hk, kid_between h hi k (by omega)⟩
/-- A child stands at one of the children's places. -/
theorem kid_at {l : List Prt} (h : Hang l) {i c : Nat} (hi : i < l.length) (hk : IsKid l i c) : ∃ k, k < (prN l i).kids.toNat ∧ kidAt l (i + 1) k = c := by
  have hch := h.chain i hi
  have key : ∀ n, n ≤ (prN l i).kids.toNat → c < kidAt l (i + 1) n → ∃ k, k < (prN l i).kids.toNat ∧ kidAt l (i + 1) k = c := by
    intro n
    induction n with
    | zero => intro _ h1; simp only [kidAt] at h1; have := hk.1; omega
    | succ n ih =>
      intro hn h1
      by_cases c1 : c < kidAt l (i + 1) n
      · exact ih (by omega) c1
      · by_cases c2 : kidAt l (i + 1) n = c
        · exact ⟨n, by omega, c2⟩
        · have hge := kidAt_ge h hi n (by omega)
          have := hk.2.2 (kidAt l (i + 1) n) (by omega) (by omega)
          exact absurd h1 (by show ¬ c < endS l (kidAt l (i + 1) n); omega)
  exact key _ (Nat.le_refl _) (by rw [hch]; exact hk.2.1)
theorem kidAt_mono {l : List Prt} (h : Hang l) {i : Nat} (hi : i < l.length) {j : Nat} : ∀ k, j < k → k ≤ (prN l i).kids.toNat → kidAt l (i + 1) j < kidAt l (i + 1) k
  | 0, hj, _ => by omega
  | k + 1, hj, hk => by
    have h3 := h.kid i k hi (by omega)
    have h4 := (h.up i hi).2
    have h5 : kidAt l (i + 1) k < kidAt l (i + 1) (k + 1) := (h.up (kidAt l (i + 1) k) (by omega)).1
    by_cases c : j = k
    · rw [c]; exact h5
    · exact Nat.lt_trans (kidAt_mono h hi k (by omega) (by omega)) h5
/-- How often a place is among the first children. -/
def kcS (l : List Prt) (i c : Nat) : Nat → Nat
  | 0 => 0
  | k + 1 => kcS l i c k + (if kidAt l (i + 1) k = c then 1 else 0)
/-- How often a place is a child, of the parts ahead of one. -/
def parS8 (l : List Prt) (c : Nat) : Nat → Nat
  | 0 => 0
  | i + 1 => parS8 l c i + kcS l i c (prN l i).kids.toNat
theorem kc_none {l : List Prt} {i c : Nat} : ∀ n, (∀ k, k < n → kidAt l (i + 1) k ≠ c) → kcS l i c n = 0
  | 0, _ => rfl
  | n + 1, h => by rw [kcS, if_neg (h n (by omega)), kc_none n (fun k hk => h k (by omega))]
theorem kc_one {l : List Prt} {i c j : Nat} : ∀ n, j < n → kidAt l (i + 1) j = c → (∀ k, k < n → k ≠ j → kidAt l (i + 1) k ≠ c) → kcS l i c n = 1
  | 0, hj, _, _ => by omega
  | n + 1, hj, he, h => by
    by_cases cj : j = n
    · subst cj
      rw [kcS, if_pos he, kc_none j (fun k hk => h k (by omega) (by omega))]
    · rw [kcS, if_neg (h n (by omega) (by omega)), kc_one n (by omega) he (fun k hk hne => h k (by omega) hne)]
theorem kc_kid {l : List Prt} (h : Hang l) {i c : Nat} (hi : i < l.length) (hk : IsKid l i c) : kcS l i c (prN l i).kids.toNat = 1 := by
  obtain ⟨j, hj, he⟩ := kid_at h hi hk
  refine kc_one _ hj he (fun k hk2 hne e => ?_)
  rcases Nat.lt_or_gt_of_ne hne with c1 | c1
  · have := kidAt_mono h hi (j := k) j c1 (by omega); omega
  · have := kidAt_mono h hi (j := j) k c1 (by omega); omega
theorem kc_nokid {l : List Prt} (h : Hang l) {i c : Nat} (hi : i < l.length) (hk : ¬ IsKid l i c) : kcS l i c (prN l i).kids.toNat = 0 :=
  kc_none _ (fun _k hk2 e => hk (e ▸ kid_is h hi hk2))
theorem kid_unique {l : List Prt} {i j c : Nat} (h1 : IsKid l i c) (h2 : IsKid l j c) : i = j := by
  rcases Nat.lt_trichotomy i j with c1 | c1 | c1
  · have := h1.2.2 j c1 h2.1; have := h2.2.1; omega
  · exact c1
  · have := h2.2.2 i c1 h1.1; have := h1.2.1; omega
/-- Each part but the first has one that it is the child of. -/
theorem kid_ex {l : List Prt} (h : Hang l) {c : Nat} (h0 : 0 < c) (hc : c < l.length) : ∃ i, i < c ∧ IsKid l i c := by
  have key : ∀ j, j < c → (∀ a, j < a → a < c → endS l a ≤ c) → ∃ i, i < c ∧ IsKid l i c := by
    intro j
    induction j with
    | zero => intro hj ha; exact ⟨0, h0, h0, by rw [h.all]; exact hc, ha⟩
    | succ j ih =>
      intro hj ha
      by_cases c1 : c < endS l (j + 1)
      · exact ⟨j + 1, hj, hj, c1, ha⟩
      · refine ih (by omega) (fun a h1 h2 => ?_)
        by_cases c2 : a = j + 1
        · rw [c2]; omega
        · exact ha a (by omega) h2
  exact key (c - 1) (by omega) (fun a h1 h2 => by omega)
theorem par_zero {l : List Prt} (h : Hang l) {c : Nat} : ∀ n, n ≤ l.length → (∀ i, i < n → ¬ IsKid l i c) → parS8 l c n = 0
  | 0, _, _ => rfl
  | n + 1, hn, hk => by rw [parS8, kc_nokid h (by omega) (hk n (by omega)), par_zero h n (by omega) (fun i hi => hk i (by omega))]
theorem par_one {l : List Prt} (h : Hang l) {c j : Nat} (hj : IsKid l j c) : ∀ n, n ≤ l.length → j < n → parS8 l c n = 1
  | 0, _, hjn => by omega
  | n + 1, hn, hjn => by
    by_cases cj : j = n
    · subst cj
      rw [parS8, kc_kid h (by omega) hj, par_zero h j (by omega) (fun i hi hk => by have := kid_unique hk hj; omega)]
    · rw [parS8, kc_nokid h (by omega) (fun hk => cj (kid_unique hj hk)), par_one h hj n (by omega) (by omega)]
/-- Each part but the first is the child of just one. -/
theorem par_all {l : List Prt} (h : Hang l) {c : Nat} (hc : c < l.length) : parS8 l c l.length = min c 1 := by
  by_cases c0 : c = 0
  · subst c0
    rw [par_zero h _ (Nat.le_refl _) (fun i _ hk => by have := hk.1; omega)]; rfl
  · obtain ⟨i, hi, hk⟩ := kid_ex h (by omega) hc
    rw [par_one h hk _ (Nat.le_refl _) (by omega)]
    omega
theorem kc_mono (l : List Prt) (i c : Nat) : ∀ (n j : Nat), j ≤ n → kcS l i c j ≤ kcS l i c n
  | 0, j, h => by rw [Nat.le_zero.1 h]; exact Nat.le_refl _
  | n + 1, j, h => by
    by_cases e : j = n + 1
    · rw [e]; exact Nat.le_refl _
    · exact Nat.le_trans (kc_mono l i c n j (by omega)) (by rw [kcS]; omega)
theorem par_mono (l : List Prt) (c : Nat) : ∀ (n j : Nat), j ≤ n → parS8 l c j ≤ parS8 l c n
  | 0, j, h => by rw [Nat.le_zero.1 h]; exact Nat.le_refl _
  | n + 1, j, h => by
    by_cases e : j = n + 1
    · rw [e]; exact Nat.le_refl _
    · exact Nat.le_trans (par_mono l c n j (by omega)) (by rw [parS8]; omega)
theorem par_le {l : List Prt} (h : Hang l) {c i k : Nat} (hc : c < l.length) (hi : i < l.length) (hk : k ≤ (prN l i).kids.toNat) : parS8 l c i + kcS l i c k ≤ 1 := by
  have h1 := kc_mono l i c _ k hk
  have h2 := par_mono l c l.length (i + 1) hi
  rw [par_all h hc, parS8] at h2
  omega
end Go.Proofs.YtioalnncjahlnaaGreatDoor

namespace Go.Proofs.YtioalnncjahlnaaGreatDoor

/-- Each part's end, as the terms have it. -/
def EndsAt (l : List Prt) : Nat → Fst → Prop
  | _, .nil => True
  | o, .cons _ K N => endS l o = o + 1 + K.size ∧ EndsAt l (o + 1) K ∧ EndsAt l (o + 1 + K.size) N
theorem ends_fit : ∀ (F : Fst) (l : List Prt) (o deep ink : Nat), (∀ i, i < F.size → l[o + i]? = F.flat[i]?) → o + F.size ≤ 64 → 1 ≤ deep → F.fit deep ink → EndsAt l o F
  | .nil, _, _, _, _, _, _, _, _ => trivial
  | .cons x K N, l, o, deep, ink, hl, h64, hd, hf => by
    obtain ⟨h1, h2, h3, h4, h5⟩ := hf
    simp only [Fst.size] at hl h64
    have g1 : (Fst.cons x K .nil).fit deep ink := ⟨h1, h2, h3, h4, trivial⟩
    have hs : ∀ i, i < (Fst.cons x K .nil).size → l[o + i]? = (Fst.cons x K .nil).flat[i]? := fun i hi => by
      simp only [Fst.size] at hi
      rw [hl i (by omega)]
      simp only [Fst.flat, List.append_nil]
      cases i with
      | zero => rfl
      | succ i =>
        rw [List.getElem?_cons_succ, List.getElem?_cons_succ, List.getElem?_append_left (by rw [flat_len]; omega)]
    have hr := rd_fit (.cons x K .nil) _ l o deep ink (Nat.le_refl _) hs (by simp only [Fst.size]; omega) g1
    refine ⟨(end_of hr hd).trans (by simp only [Fst.size]; omega), ends_fit K l (o + 1) (deep + 1) x.kind (fun i hi => ?_) (by omega) (by omega) h4, ends_fit N l (o + 1 + K.size) deep ink (fun i hi => ?_) (by omega) hd h5⟩
    · have := hl (1 + i) (by omega)
      rw [show o + 1 + i = o + (1 + i) by omega, this, Fst.flat, Nat.add_comm 1 i, List.getElem?_cons_succ, List.getElem?_append_left (by rw [flat_len]; exact hi)]
    · have := hl (1 + K.size + i) (by omega)
      rw [show o + 1 + K.size + i = o + (1 + K.size + i) by omega, this, Fst.flat, show 1 + K.size + i = (K.size + i) + 1 by omega, List.getElem?_cons_succ, List.getElem?_append_right (by rw [flat_len]; omega), flat_len, Nat.add_sub_cancel_left]
theorem ends_in (l : List Prt) : ∀ (F : Fst) (o : Nat), EndsAt l o F → ∀ a, o ≤ a → a < o + F.size → endS l a ≤ o + F.size
  | .nil, o, _, a, h1, h2 => by simp only [Fst.size] at h2; omega
  | .cons x K N, o, ⟨e1, e2, e3⟩, a, h1, h2 => by
    simp only [Fst.size] at h2 ⊢
    by_cases c : a = o
    · subst c; omega
    · by_cases c2 : a < o + 1 + K.size
      · have := ends_in l K (o + 1) e2 a (by omega) (by omega); omega
      · have := ends_in l N (o + 1 + K.size) e3 a (by omega) (by omega); omega
theorem anc_kid (l : List Prt) {x : Prt} {K N : Fst} {o q : Nat} (h : EndsAt l o (.cons x K N)) (hq : q < K.size) : ancS l (o + (1 + q)) o (1 + q) = 1 + ancS l (o + 1 + q) (o + 1) q := by
  rw [show 1 + q = q + 1 by omega, ancS, if_pos (by have := h.1; omega), show o + (q + 1) = o + 1 + q by omega]
theorem anc_next (l : List Prt) {x : Prt} {K N : Fst} {o q : Nat} (h : EndsAt l o (.cons x K N)) : ancS l (o + (1 + K.size + q)) o (1 + K.size + q) = ancS l (o + 1 + K.size + q) (o + 1 + K.size) q := by
  rw [anc_add, anc_none, Nat.zero_add]
  · congr 1 <;> omega
  · intro a h1 h2
    by_cases c : a = o
    · subst c; rw [h.1]; omega
    · have := ends_in l K (o + 1) h.2.1 a (by omega) (by omega); omega
/-- No part stands deeper than the terms are deep; one stands so deep. -/
theorem anc_depth (l : List Prt) : ∀ (F : Fst) (o : Nat), EndsAt l o F → ∀ p, p < F.size → ancS l (o + p) o p + 1 ≤ F.depth
  | .nil, _, _, p, h => by simp [Fst.size] at h
  | .cons x K N, o, h, p, hp => by
    simp only [Fst.size] at hp
    simp only [Fst.depth]
    by_cases c : p = 0
    · subst c; rw [ancS]; omega
    · by_cases c2 : p < 1 + K.size
      · obtain ⟨q, rfl⟩ : ∃ q, p = 1 + q := ⟨p - 1, by omega⟩
        rw [anc_kid l h (by omega)]
        have := anc_depth l K (o + 1) h.2.1 q (by omega); omega
      · obtain ⟨q, rfl⟩ : ∃ q, p = 1 + K.size + q := ⟨p - (1 + K.size), by omega⟩
        rw [anc_next l h]
        have := anc_depth l N (o + 1 + K.size) h.2.2 q (by omega); omega
theorem anc_deep (l : List Prt) : ∀ (F : Fst) (o : Nat), EndsAt l o F → 0 < F.size → ∃ p, p < F.size ∧ ancS l (o + p) o p + 1 = F.depth
  | .nil, _, _, h => by simp [Fst.size] at h
  | .cons x K N, o, h, _ => by
    simp only [Fst.size, Fst.depth]
    by_cases c : N.depth ≤ K.depth + 1
    · by_cases c2 : 0 < K.size
      · obtain ⟨q, h1, h2⟩ := anc_deep l K (o + 1) h.2.1 c2
        exact ⟨1 + q, by omega, by rw [anc_kid l h h1]; omega⟩
      · refine ⟨0, by omega, ?_⟩
        have : K = .nil := by
          cases K with
          | nil => rfl
          | cons x a b => simp only [Fst.size] at c2; omega
        subst this
        rw [ancS]
        simp only [Fst.depth] at c ⊢
        omega
    · have c2 : 0 < N.size := by
        cases N with
        | nil => simp only [Fst.depth] at c; omega
        | cons x a b => simp only [Fst.size]; omega
      obtain ⟨q, h1, h2⟩ := anc_deep l N (o + 1 + K.size) h.2.2 c2
      exact ⟨1 + K.size + q, by omega, by rw [anc_next l h]; omega⟩
theorem depth_fit {F : Fst} (h1 : F.len = 1) (h2 : F.size ≤ 64) (h3 : F.fit 1 0) : (∀ p, p < F.flat.length → depthS F.flat p ≤ F.depth) ∧ ∃ p, p < F.flat.length ∧ depthS F.flat p = F.depth := by
  have he : EndsAt F.flat 0 F := ends_fit F F.flat 0 1 0 (fun i _ => by rw [Nat.zero_add]) (by omega) (Nat.le_refl _) h3
  have hh : Hang F.flat := tree_hang (by rw [tree_fit h1 h2 h3])
  constructor
  · intro p hp
    have := anc_depth F.flat F 0 he p (by rw [← flat_len]; exact hp)
    rw [Nat.zero_add] at this
    rw [depth_anc hh hp]; exact this
  · obtain ⟨p, hp, e⟩ := anc_deep F.flat F 0 he (by have := len_size F; omega)
    rw [Nat.zero_add] at e
    refine ⟨p, by rw [flat_len]; exact hp, ?_⟩
    rw [depth_anc hh (by rw [flat_len]; exact hp)]; exact e
/-- The normal form is no deeper. -/
theorem plain_deep {F : Fst} (h1 : F.len = 1) (h2 : F.size ≤ 64) (h3 : F.fit 1 0) {p : Nat} (hp : p < (plainF F).flat.length) : ∃ q, q < F.flat.length ∧ depthS (plainF F).flat p ≤ depthS F.flat q := by
  obtain ⟨q, hq, e⟩ := (depth_fit h1 h2 h3).2
  refine ⟨q, hq, ?_⟩
  rw [e]
  exact Nat.le_trans ((depth_fit ((plain_siz F).2.trans h1) (Nat.le_trans (plain_siz F).1 h2) (plain_fit F 1 0 h3)).1 p hp) (plain_dep F)
end Go.Proofs.YtioalnncjahlnaaGreatDoor

namespace Go.Proofs.YtioalnncjahlnaaGreatDoor

/-- From there on the list is the forest's. -/
def AtF (l : List Prt) (o : Nat) (F : Fst) : Prop := (∀ i, i < F.size → l[o + i]? = F.flat[i]?) ∧ EndsAt l o F
theorem AtF.kids {l : List Prt} {o : Nat} {x : Prt} {K N : Fst} (h : AtF l o (.cons x K N)) : AtF l (o + 1) K := by
  refine ⟨fun i hi => ?_, h.2.2.1⟩
  have := h.1 (i + 1) (by simp only [Fst.size]; omega)
  rw [show o + 1 + i = o + (i + 1) by omega, this]
  simp only [Fst.flat, List.getElem?_cons_succ]
  rw [List.getElem?_append_left (by rw [flat_len]; exact hi)]
theorem AtF.next {l : List Prt} {o : Nat} {x : Prt} {K N : Fst} (h : AtF l o (.cons x K N)) : AtF l (o + 1 + K.size) N := by
  refine ⟨fun i hi => ?_, h.2.2.2⟩
  have := h.1 (1 + K.size + i) (by simp only [Fst.size]; omega)
  rw [show o + 1 + K.size + i = o + (1 + K.size + i) by omega, this]
  simp only [Fst.flat]
  rw [show 1 + K.size + i = (K.size + i) + 1 by omega, List.getElem?_cons_succ, List.getElem?_append_right (by rw [flat_len]; omega), flat_len]
  congr 1; omega
theorem AtF.head {l : List Prt} {o : Nat} {x : Prt} {K N : Fst} (h : AtF l o (.cons x K N)) : l[o]? = some { x with kids := (K.len : Int) } := by
  have := h.1 0 (by simp only [Fst.size]; omega)
  simpa [Fst.flat] using this
theorem AtF.lt {l : List Prt} {o : Nat} {x : Prt} {K N : Fst} (h : AtF l o (.cons x K N)) : o < l.length := (List.getElem?_eq_some_iff.1 h.head).1
theorem AtF.one {l : List Prt} {o : Nat} {x : Prt} {K N : Fst} (h : AtF l o (.cons x K N)) : AtF l o (.cons x K .nil) := by
  refine ⟨fun i hi => ?_, h.2.1, h.2.2.1, trivial⟩
  have := h.1 i (by simp only [Fst.size] at hi ⊢; omega)
  rw [this]
  simp only [Fst.size] at hi
  simp only [Fst.flat]
  cases i with
  | zero => rfl
  | succ i =>
    simp only [List.getElem?_cons_succ]
    rw [List.getElem?_append_left (by rw [flat_len]; omega), List.getElem?_append_left (by rw [flat_len]; omega)]
theorem atF_whole {F : Fst} (h2 : F.size ≤ 64) (h3 : F.fit 1 0) : AtF F.flat 0 F := by
  refine ⟨fun i _ => by rw [Nat.zero_add], ends_fit F F.flat 0 1 0 (fun i _ => by rw [Nat.zero_add]) (by omega) (Nat.le_refl _) h3⟩
/-- Where the terms of a forest begin. -/
def posF : Fst → Nat → List Nat
  | .nil, _ => []
  | .cons _ K N, o => o :: posF N (o + 1 + K.size)
theorem posF_len : ∀ (F : Fst) (o : Nat), (posF F o).length = F.len
  | .nil, _ => rfl
  | .cons x K N, o => by simp only [posF, List.length_cons, Fst.len, posF_len N]
theorem kidsGo_pos (l : List Prt) : ∀ (F : Fst) (o : Nat), EndsAt l o F → kidsGo l F.len o = posF F o
  | .nil, _, _ => rfl
  | .cons x K N, o, ⟨e, _, h⟩ => by rw [Fst.len, kidsGo, posF, e, kidsGo_pos l N _ h]
theorem kidsS_pos {l : List Prt} {o : Nat} {x : Prt} {K N : Fst} (h : AtF l o (.cons x K N)) : kidsS l o = posF K (o + 1) := by
  have e := h.head
  unfold kidsS
  rw [List.getD_eq_getElem?_getD, e]
  exact kidsGo_pos l K _ h.2.2.1
/-- The term that a part is made into. -/
def nzT (x : Prt) (K : Fst) (o : Nat) : Tm := nfT ({ x with kids := (o : Int) }, plainF (lab K (o + 1)))
theorem plain_lab (x : Prt) (K N : Fst) (o : Nat) : plainF (lab (.cons x K N) o) = .cons (nzT x K o).1 (nzT x K o).2 (plainF (lab N (o + 1 + K.size))) := by
  rw [lab, plain_cons]; rfl
theorem nz_fit {x : Prt} {K N : Fst} {o deep ink : Nat} (h : (Fst.cons x K N).fit deep ink) : FitT ({ x with kids := (o : Int) }, plainF (lab K (o + 1))) deep ink := by
  obtain ⟨h1, h2, h3, h4, h5⟩ := h
  refine ⟨?_, h2, h3, plain_fit _ _ _ (lab_fit K (o + 1) _ _ h4)⟩
  simp only [(plain_siz _).2, (lab_len K _).1]; exact h1
theorem nz_siz {x : Prt} {K : Fst} {o n : Nat} (h : K.size + 1 ≤ n) : sizT ({ x with kids := (o : Int) }, plainF (lab K (o + 1))) ≤ n := by
  have := (plain_siz (lab K (o + 1))).1
  rw [(lab_len K _).2] at this
  simp only [sizT]; omega
theorem toL_plain_cons (x : Prt) (K N : Fst) (o : Nat) : toL (plainF (lab (.cons x K N) o)) = nzT x K o :: toL (plainF (lab N (o + 1 + K.size))) := by
  rw [plain_lab, toL]
end Go.Proofs.YtioalnncjahlnaaGreatDoor

namespace Go.Proofs.YtioalnncjahlnaaGreatDoor
open Go.ChangeShapes Go.WideShapes Go.ChangeAt Go.RowKit
attribute [local irreducible] Go.Calls

/-- For a region that draws its order: an append of cells in a block, and where the new row lies. -/
theorem step_appAt {P : Program} {ops : Array Oper} {o : Oper} {a : Act} {w : World} {K : Act → World → Prop} {Q : Exit → Act → World → Prop} {E : Prop}
    (hg : o.guard = none) (s x : Operand) (t : TypeId) (hop : o.op = Op.call { callee := Callee.builtin Builtin.append, args := #[s, x], argTypes := #[t, t] })
    (base : Nat) (e : TypeId) (i : TypeInfo) (z : Value) (sz by' : Nat) (ht : P.underlying t = some (.slice e)) (hi : P.info? e = some i) (hz : i.zero = some z) (hsize : i.size = sz) (hby : i.bytes = by') (hzs : z.cells.size = sz) (hs0 : 0 < sz)
    (v : Value) (n : Nat) (xs : List Value) (hs : a.eval s = v) (hown : w.ownsRow base e sz v n xs)
    (ad : Addr) (m c : Nat) (ys : List Value) (hx : a.eval x = .slice (some ad) m c) (hl : ys.length = m * sz) (hnews : ∀ j u, ys[j]? = some u → w.cell? (ad.add j) = some u) (h1 : ∀ u ∈ ys, u.oneCell' = true)
    (h63 : n + m ≤ 1099511627776) (hb' : by' ≤ 100) (hbase : base ≤ w.heap.size)
    (h : ∀ v' w', w'.ownsRow base e sz v' (n + m) (xs ++ ys) → w.grownBy w' v.ownBlock → (v'.ownBlock = v.ownBlock ∨ v'.ownBlock = some w.heap.size) → K (a.put o.dst v') w') :
    if Region.wanted o (yielded ops a.tmps) = true then Oper.wp P o a w K Q else E := by
  have hw : Region.wanted o (yielded ops a.tmps) = true := by simp [Region.wanted, hg]
  rw [if_pos hw]
  have hbb : (n + m) * by' ≤ (n + m) * 100 := Nat.mul_le_mul_left _ hb'
  obtain ⟨v', w', hr, h2, h3, h4, h5⟩ := run_append_own_at (P := P) w base t o.type e i z sz by' ht hi hz hsize hby hzs hs0 v n xs hown ad m c ys hl hnews h1 (by unfold maxLen; omega) (by omega) hbase
  unfold Oper.wp execOp
  simp only [hop, resolve, invoke, builtin, Sem.run_bind, Sem.run_pure, Result.andThen_ok, List.map_toArray, List.map_cons, List.map_nil, hs, hx, hr]
  exact h v' w' h2 h3 h5
theorem blk_news {w : World} {p : Nat} {ys : List Value} {t : TypeId} (h : Blk w p ys.toArray t) : ∀ j u, ys[j]? = some u → w.cell? ((⟨p, 0, none⟩ : Addr).add j) = some u := by
  intro j u hu
  have e : ((⟨p, 0, none⟩ : Addr).add j) = ⟨p, j, none⟩ := by
    unfold Addr.add
    by_cases c : j = 0
    · subst c; simp
    · simp [c]
  rw [e, h.cell j, ← hu]
  simp
theorem own_pos {w : World} {B sz n : Nat} {e : TypeId} {v : Value} {xs : List Value} (h : w.ownsRow B e sz v (n + 1) xs) : ∃ g cap, v = .slice (some ⟨g, 0, none⟩) (n + 1) cap ∧ B ≤ g ∧ g < w.heap.size ∧ n + 1 ≤ cap := by
  obtain ⟨_, h2 | ⟨g, cap, cur, rfl, h3, h4, h5, _⟩⟩ := h
  · exact absurd h2.2 (by omega)
  · exact ⟨g, cap, rfl, h3, lt_of_block h4, h5⟩
theorem own_cell {w : World} {B g n cap : Nat} {e : TypeId} {sz : Nat} {xs : List Value} (h : w.ownsRow B e sz (.slice (some ⟨g, 0, none⟩) n cap) n xs) {j : Nat} {u : Value} (hu : xs[j]? = some u) : w.cell? ⟨g, j, none⟩ = some u := by
  have := h.cells (g := g) rfl j u hu
  have e : ((⟨g, 0, none⟩ : Addr).add j) = ⟨g, j, none⟩ := by
    unfold Addr.add
    by_cases c : j = 0
    · subst c; simp
    · simp [c]
  rwa [e] at this
/-- A term is stored into a row's last place. -/
abbrev putR (w : World) (g n : Nat) (x : Prt) (z : Int) (v : Value) : World :=
  ((((((w.setCell ⟨g, n * 7, none⟩ (.int .u8 x.kind)).setCell ⟨g, n * 7 + 1, none⟩ (.int .u32 x.n)).setCell ⟨g, n * 7 + 2, none⟩ (.int .u32 x.g)).setCell ⟨g, n * 7 + 3, none⟩ (.int .i64 x.d)).setCell ⟨g, n * 7 + 4, none⟩ (.int .i64 z)).setCell ⟨g, n * 7 + 5, none⟩ (.int .i64 x.kids)).setCell ⟨g, n * 7 + 6, none⟩ v
theorem set_at {xs ys : List Value} {n j : Nat} (hx : xs.length = n * 7) (u : Value) : (xs ++ ys).set (n * 7 + j) u = xs ++ ys.set j u := by
  rw [List.set_append_right _ _ (by omega)]
  congr 2; omega
theorem putR_own {w : World} {B g n cap : Nat} {T : TypeId} {xs : List Value} {a0 a1 a2 a3 a4 a5 a6 : Value} (h : w.ownsRow B T 7 (.slice (some ⟨g, 0, none⟩) (n + 1) cap) (n + 1) (xs ++ [a0, a1, a2, a3, a4, a5, a6])) (hx : xs.length = n * 7) (x : Prt) (z : Int) (v : Value) :
    (putR w g n x z v).ownsRow B T 7 (.slice (some ⟨g, 0, none⟩) (n + 1) cap) (n + 1) (xs ++ tcV x z v) ∧ w.grownBy (putR w g n x z v) (some g) := by
  have s0 := h.stored (n * 7) (.int .u8 x.kind)
  rw [show n * 7 = n * 7 + 0 from rfl, set_at hx] at s0
  simp only [Nat.add_zero, List.set_cons_zero] at s0
  have s1 := s0.1.stored (n * 7 + 1) (.int .u32 x.n)
  rw [set_at hx] at s1
  have s2 := s1.1.stored (n * 7 + 2) (.int .u32 x.g)
  rw [set_at hx] at s2
  have s3 := s2.1.stored (n * 7 + 3) (.int .i64 x.d)
  rw [set_at hx] at s3
  have s4 := s3.1.stored (n * 7 + 4) (.int .i64 z)
  rw [set_at hx] at s4
  have s5 := s4.1.stored (n * 7 + 5) (.int .i64 x.kids)
  rw [set_at hx] at s5
  have s6 := s5.1.stored (n * 7 + 6) v
  rw [set_at hx] at s6
  simp only [List.set_cons_succ, List.set_cons_zero] at s6
  exact ⟨s6.1, grown_trans (grown_trans (grown_trans (grown_trans (grown_trans (grown_trans s0.2 s1.2) s2.2) s3.2) s4.2) s5.2) s6.2⟩
/-- The terms' children lie elsewhere than the row. -/
def OwnE (B : Nat) (w : World) (v : Value) (l : List Tm) : Prop := ∃ xs, w.ownsRow B 79 7 v l.length xs ∧ CelF (fun k => B ≤ k ∧ some k ≠ v.ownBlock) w (ofL l) xs
end Go.Proofs.YtioalnncjahlnaaGreatDoor

namespace Go.Proofs.YtioalnncjahlnaaGreatDoor
open Go.ChangeShapes Go.WideShapes Go.ChangeAt Go.RowKit
attribute [local irreducible] Go.Calls

/-- What normalized hands back: the term, all of it new. -/
def NzPost (w : World) (t : Tm) (e : Ending) (w' : World) : Prop := ∃ z v, e = .returned (trV t.1 z v) ∧ SliF (fun k => w.heap.size ≤ k) w' v t.2 ∧ Below w.heap.size w w'
/-- Between two children. -/
structure NzI (w : World) (q : Nat) (y : Prt) (K : Fst) (o : Nat) (D : List Tm) (C : Fst) (oo : Nat) (l : List Prt) (wr : World) : Prop where
  tot : toL (plainF (lab K (o + 1))) = D ++ toL (plainF (lab C oo))
  pos : ∃ pre, posF K (o + 1) = pre ++ posF C oo ∧ pre.length = D.length
  atf : AtF l oo C
  fit : ∃ deep ink, C.fit deep ink
  siz : C.size ≤ K.size
  own : ∃ z v, Blk wr q (tcA { y with kids := (o : Int) } z v) 79 ∧ OwnE (q + 1) wr v D
  bel : Below q w wr
/-- All but two blocks stay. -/
structure Two (g q : Nat) (w W : World) : Prop where
  os : W.os = w.os
  tape : W.tape = w.tape
  output : W.output = w.output
  size : w.heap.size ≤ W.heap.size
  block : ∀ k, k < w.heap.size → k ≠ g → k ≠ q → W.heap[k]? = w.heap[k]?
theorem two_a {w W V : World} {g q : Nat} (h : w.grownBy W (some g)) (h2 : W.grownBy V (some q)) : Two g q w V :=
  ⟨h2.os.trans h.os, h2.tape.trans h.tape, h2.output.trans h.output, Nat.le_trans h.size h2.size, fun k hk a b => (h2.block k (Nat.lt_of_lt_of_le hk h.size) (by simpa using b)).trans (h.block k hk (by simpa using a))⟩
theorem two_b {w W V : World} {g q : Nat} (h : w.grownBy W (some q)) (h2 : W.grownBy V (some g)) : Two g q w V :=
  ⟨h2.os.trans h.os, h2.tape.trans h.tape, h2.output.trans h.output, Nat.le_trans h.size h2.size, fun k hk a b => (h2.block k (Nat.lt_of_lt_of_le hk h.size) (by simpa using a)).trans (h.block k hk (by simpa using b))⟩
theorem NzI.step {w2 wr w6 wb w' W : World} {q : Nat} {y x : Prt} {K Kx N : Fst} {o oo : Nat} {D : List Tm} {l : List Prt} {u : Tm} {z z' : Int} {va vu : Value} {g' cp' : Nat} {xs : List Value}
    (hI : NzI w2 q y K o D (.cons x Kx N) oo l wr) (hu : u = nzT x Kx oo) (hbk : Blk wr q (tcA { y with kids := (o : Int) } z va) 79) (how : wr.ownsRow (q + 1) 79 7 va D.length xs) (hrx : CelF (fun k => q + 1 ≤ k ∧ some k ≠ va.ownBlock) wr (ofL D) xs)
    (h6 : Below wr.heap.size wr w6) (hs6 : SliF (fun k => wr.heap.size ≤ k) w6 vu u.2) (hb : Below w6.heap.size w6 wb) (hg : wb.grownBy w' va.ownBlock) (hgB : q + 1 ≤ g') (hat : some g' = va.ownBlock ∨ some g' = some wb.heap.size)
    (hW : Two g' q w' W) (hown : W.ownsRow (q + 1) 79 7 (.slice (some ⟨g', 0, none⟩) (D.length + 1) cp') (D.length + 1) (xs ++ tcV u.1 z' vu)) (hbW : Blk W q (tcA { y with kids := (o : Int) } z (.slice (some ⟨g', 0, none⟩) (D.length + 1) cp')) 79) :
    NzI w2 q y K o (D ++ [u]) N (oo + 1 + Kx.size) l W := by
  have qz := hbk.lt
  have s6 := h6.size; have sb := hb.size; have sg := hg.size
  have hlt : ∀ k, va.ownBlock = some k → k < wr.heap.size := fun k e => own_lt how e
  obtain ⟨deep, ink, hf⟩ := hI.fit
  obtain ⟨pre, hp, hpl⟩ := hI.pos
  refine ⟨?_, ⟨pre ++ [oo], by rw [hp, posF]; simp, by simp [hpl]⟩, hI.atf.next, ⟨deep, ink, hf.2.2.2.2⟩, by have := hI.siz; simp only [Fst.size] at this; omega, ⟨z, _, hbW, xs ++ tcV u.1 z' vu, by rw [List.length_append]; exact hown, ?_⟩, ?_⟩
  · rw [hI.tot, toL_plain_cons, ← hu]; simp
  · refine CelF.app (celF_one ?_) ?_
    · refine SlcT.imp hs6 (by have := hW.size; omega) (fun k a b => ⟨⟨by omega, ?_⟩, ?_⟩) (fun ys hy => CelF.imp (by have := hW.size; omega) (fun k a b => ⟨⟨by omega, ?_⟩, ?_⟩) _ _ hy)
      all_goals first
        | (refine fun e => ?_
           have e : k = g' := Option.some.inj e
           rcases hat with c | c
           · have := hlt g' c.symm; omega
           · have c := Option.some.inj c; omega)
        | (rw [hW.block k (by omega) (by
             rintro rfl
             rcases hat with c | c
             · have := hlt _ c.symm; omega
             · have c := Option.some.inj c; omega) (by omega), hg.block k (by omega) (fun e => by have := hlt k e.symm; omega), hb.block k b])
    · refine CelF.imp (by have := hW.size; omega) (fun k a b => ⟨⟨a.1, ?_⟩, ?_⟩) _ _ hrx
      all_goals first
        | (refine fun e => ?_
           have e : k = g' := Option.some.inj e
           rcases hat with c | c
           · exact a.2 (by rw [e]; exact c)
           · have c := Option.some.inj c; omega)
        | (rw [hW.block k (by omega) (by
             rintro rfl
             rcases hat with c | c
             · exact a.2 c
             · have c := Option.some.inj c; omega) (by have := a.1; omega), hg.block k (by omega) a.2, hb.block k (by omega), h6.block k b])
  · refine hI.bel.trans ⟨?_, ?_, ?_, by have := hW.size; omega, fun k hk => ?_⟩
    · rw [hW.os, hg.os, hb.os, h6.os]
    · rw [hW.tape, hg.tape, hb.tape, h6.tape]
    · rw [hW.output, hg.output, hb.output, h6.output]
    · rw [hW.block k (by omega) (by omega) (by omega), hg.block k (by omega) (fun e => by have := own_block how e.symm; omega), hb.block k (by omega), h6.block k (by omega)]
/-- A child that is appended, and stored into the row; the row is stored into the term's field, before or behind. -/
theorem NzI.both {w2 wr w6 : World} {q : Nat} {y x : Prt} {K Kx N : Fst} {o oo : Nat} {D : List Tm} {l : List Prt} {u : Tm} {z z' : Int} {va vu : Value} {xs : List Value}
    (hI : NzI w2 q y K o D (.cons x Kx N) oo l wr) (hu : u = nzT x Kx oo) (hbk : Blk wr q (tcA { y with kids := (o : Int) } z va) 79) (how : wr.ownsRow (q + 1) 79 7 va D.length xs) (hrx : CelF (fun k => q + 1 ≤ k ∧ some k ≠ va.ownBlock) wr (ofL D) xs)
    (h6 : Below wr.heap.size wr w6) (hs6 : SliF (fun k => wr.heap.size ≤ k) w6 vu u.2) (wb w' : World) (g' cp' : Nat) (a0 a1 a2 a3 a4 a5 a6 : Value) (hb : Below w6.heap.size w6 wb)
    (own' : w'.ownsRow (q + 1) 79 7 (.slice (some ⟨g', 0, none⟩) (D.length + 1) cp') (D.length + 1) (xs ++ [a0, a1, a2, a3, a4, a5, a6])) (hg : wb.grownBy w' va.ownBlock) (hgB : q + 1 ≤ g') (hat : (Value.slice (some ⟨g', 0, none⟩) (D.length + 1) cp').ownBlock = va.ownBlock ∨ (Value.slice (some ⟨g', 0, none⟩) (D.length + 1) cp').ownBlock = some wb.heap.size) :
    NzI w2 q y K o (D ++ [u]) N (oo + 1 + Kx.size) l ((putR w' g' D.length u.1 z' vu).setCell ⟨q, 6, none⟩ (.slice (some ⟨g', 0, none⟩) (D.length + 1) cp')) ∧
    NzI w2 q y K o (D ++ [u]) N (oo + 1 + Kx.size) l (putR (w'.setCell ⟨q, 6, none⟩ (.slice (some ⟨g', 0, none⟩) (D.length + 1) cp')) g' D.length u.1 z' vu) := by
  have hxl : xs.length = D.length * 7 := how.1
  have s6 := h6.size; have sb := hb.size; have qz := hbk.lt
  have hq : Blk w' q (tcA { y with kids := (o : Int) } z va) 79 := ((hbk.past h6).past hb).grown hg fun e => by have := own_block how e.symm; omega
  constructor
  · have hp := putR_own own' hxl u.1 z' vu
    refine hI.step hu hbk how hrx h6 hs6 hb hg hgB hat (two_a hp.2 (grown_set _ _ _ _)) (ownsRow_setCell_below hp.1 (by show q < q + 1; omega) _) ?_
    have hq2 : Blk (putR w' g' D.length u.1 z' vu) q (tcA { y with kids := (o : Int) } z va) 79 := hq.grown hp.2 (by simp; omega)
    have := hq2.set 6 (.slice (some ⟨g', 0, none⟩) (D.length + 1) cp')
    simp only [tcA, List.setIfInBounds_toArray, List.set_cons_zero, List.set_cons_succ] at this
    exact this
  · have hp := putR_own (ownsRow_setCell_below own' (a := ⟨q, 6, none⟩) (by show q < q + 1; omega) (.slice (some ⟨g', 0, none⟩) (D.length + 1) cp')) hxl u.1 z' vu
    refine hI.step hu hbk how hrx h6 hs6 hb hg hgB hat (two_b (grown_set _ _ _ _) hp.2) hp.1 ?_
    have := hq.set 6 (.slice (some ⟨g', 0, none⟩) (D.length + 1) cp')
    simp only [tcA, List.setIfInBounds_toArray, List.set_cons_zero, List.set_cons_succ] at this
    exact this.grown hp.2 (by simp; omega)
end Go.Proofs.YtioalnncjahlnaaGreatDoor

namespace Go.Proofs.YtioalnncjahlnaaGreatDoor
open Go.ChangeShapes Go.WideShapes Go.ChangeAt Go.RowKit
attribute [local irreducible] Go.Calls

/-- The cells of a spot, and its value: where, how many are open, and the open ones. -/
abbrev spC (p d : Nat) (O : Nat → Nat × Nat) : Array Value := #[.int .i64 p, .int .i64 d, .int .u8 (O 0).1, .int .i64 (O 0).2, .int .u8 (O 1).1, .int .i64 (O 1).2, .int .u8 (O 2).1, .int .i64 (O 2).2, .int .u8 (O 3).1, .int .i64 (O 3).2, .int .u8 (O 4).1, .int .i64 (O 4).2, .int .u8 (O 5).1, .int .i64 (O 5).2, .int .u8 (O 6).1, .int .i64 (O 6).2, .int .u8 (O 7).1, .int .i64 (O 7).2]
abbrev spV (p d : Nat) (O : Nat → Nat × Nat) : Value := .agg (spC p d O)
set_option maxHeartbeats 1000000 in
theorem rea0_c (p d : Nat) (O : Nat → Nat × Nat) (x : Prt) (w : World) : Calls Tryz.prog 89 #[spV p d O, prtV x] w fun e w' => e = .returned (.bool (reasS p d O x 0)) ∧ Below w.heap.size w w' := by
  obtain ⟨kd, n, g, dd, ks⟩ := x
  show Calls _ _ _ _ fun e w' => e = .returned (.bool (decide (0 < p) && decide (d = 0))) ∧ Below w.heap.size w w'
  simp only [spV, spC]
  generalize O 0 = o0; generalize O 1 = o1; generalize O 2 = o2; generalize O 3 = o3; generalize O 4 = o4; generalize O 5 = o5; generalize O 6 = o6; generalize O 7 = o7
  go_enter Tryz.func89, Tryz.ntmps89
  go_wp2
  all_goals
    go_ret
    refine ⟨ret_bool ?_, by (repeat (first | exact Below.refl _ _ | assumption | refine balloc ?_ _ | refine below_drewN ?_ _ | refine bstep (by assumption) ?_ | refine bstep (Past.prop _) ?_ | refine Below.setCell ?_ (by first | exact Nat.le_refl _ | (simp; done) | (simp; omega)) _))⟩
    first | (symm; apply decide_eq_true; omega) | (symm; apply decide_eq_false; omega) | (rw [Bool.eq_iff_iff]; simp only [Bool.and_eq_true, decide_eq_true_eq, beq_iff_eq]; omega) | (simp_all; done) | (rw [Bool.eq_iff_iff]; simp_all; omega)
theorem rea1_c (p d : Nat) (O : Nat → Nat × Nat) (x : Prt) (w : World) : Calls Tryz.prog 90 #[spV p d O, prtV x] w fun e w' => e = .returned (.bool (reasS p d O x 1)) ∧ Below w.heap.size w w' := by
  obtain ⟨kd, n, g, dd, ks⟩ := x
  show Calls _ _ _ _ fun e w' => e = .returned (.bool (decide (64 ≤ p))) ∧ Below w.heap.size w w'
  simp only [spV, spC]
  generalize O 0 = o0; generalize O 1 = o1; generalize O 2 = o2; generalize O 3 = o3; generalize O 4 = o4; generalize O 5 = o5; generalize O 6 = o6; generalize O 7 = o7
  go_enter Tryz.func90, Tryz.ntmps90
  go_wp2
  all_goals
    go_ret
    refine ⟨ret_bool ?_, by (repeat (first | exact Below.refl _ _ | assumption | refine balloc ?_ _ | refine below_drewN ?_ _ | refine bstep (by assumption) ?_ | refine bstep (Past.prop _) ?_ | refine Below.setCell ?_ (by first | exact Nat.le_refl _ | (simp; done) | (simp; omega)) _))⟩
    first | (symm; apply decide_eq_true; omega) | (symm; apply decide_eq_false; omega) | (rw [Bool.eq_iff_iff]; simp only [decide_eq_true_eq]; omega) | (simp_all; done) | (rw [Bool.eq_iff_iff]; simp_all; omega)
theorem rea4_c (p d : Nat) (O : Nat → Nat × Nat) (x : Prt) (w : World) : Calls Tryz.prog 93 #[spV p d O, prtV x] w fun e w' => e = .returned (.bool (reasS p d O x 4)) ∧ Below w.heap.size w w' := by
  obtain ⟨kd, n, g, dd, ks⟩ := x
  show Calls _ _ _ _ fun e w' => e = .returned (.bool (decide (8 ≤ d))) ∧ Below w.heap.size w w'
  simp only [spV, spC]
  generalize O 0 = o0; generalize O 1 = o1; generalize O 2 = o2; generalize O 3 = o3; generalize O 4 = o4; generalize O 5 = o5; generalize O 6 = o6; generalize O 7 = o7
  go_enter Tryz.func93, Tryz.ntmps93
  go_wp2
  all_goals
    go_ret
    refine ⟨ret_bool ?_, by (repeat (first | exact Below.refl _ _ | assumption | refine balloc ?_ _ | refine below_drewN ?_ _ | refine bstep (by assumption) ?_ | refine bstep (Past.prop _) ?_ | refine Below.setCell ?_ (by first | exact Nat.le_refl _ | (simp; done) | (simp; omega)) _))⟩
    first | (symm; apply decide_eq_true; omega) | (symm; apply decide_eq_false; omega) | (rw [Bool.eq_iff_iff]; simp only [decide_eq_true_eq]; omega) | (simp_all; done) | (rw [Bool.eq_iff_iff]; simp_all; omega)
set_option maxHeartbeats 2000000 in
theorem rea2_c (p d : Nat) (O : Nat → Nat × Nat) (x : Prt) (w : World) : Calls Tryz.prog 91 #[spV p d O, prtV x] w fun e w' => e = .returned (.bool (reasS p d O x 2)) ∧ Below w.heap.size w w' := by
  obtain ⟨kd, n, g, dd, ks⟩ := x
  show Calls _ _ _ _ fun e w' => e = .returned (.bool (badP ⟨kd, n, g, dd, ks⟩)) ∧ Below w.heap.size w w'
  simp only [spV, spC]
  generalize O 0 = o0; generalize O 1 = o1; generalize O 2 = o2; generalize O 3 = o3; generalize O 4 = o4; generalize O 5 = o5; generalize O 6 = o6; generalize O 7 = o7
  by_cases hk : kd = 0
  · have HE := hidE (show badP ⟨kd, n, g, dd, ks⟩ = decide (ks ≠ 0 ∨ n = 0 ∨ 4096 < n ∨ g = 0 ∨ n < g ∨ n % g ≠ 0 ∨ dd < 1 ∨ 4096 < dd) by unfold badP; rw [if_pos hk])
    rw [HE.out]
    have k1 : ((kd : Int) == 0) = true := by simp [hk]
    have k0 : decide ((kd : Int) > 4) = false := decide_eq_false (by omega)
    have k2 : decide (4 < kd) = false := decide_eq_false (by omega)
    have hmod : (n : Int).tmod (g : Int) = ((n % g : Nat) : Int) := by rw [Int.tmod_eq_emod_of_nonneg (by omega)]; omega
    clear HE hk
    go_enter Tryz.func91, Tryz.ntmps91
    go_wp2
    all_goals
      go_ret
      refine ⟨ret_bool ?_, by (repeat (first | exact Below.refl _ _ | assumption | refine balloc ?_ _ | refine below_drewN ?_ _ | refine bstep (by assumption) ?_ | refine bstep (Past.prop _) ?_ | refine Below.setCell ?_ (by first | exact Nat.le_refl _ | (simp; done) | (simp; omega)) _))⟩
      first | (symm; apply decide_eq_true; omega) | (symm; apply decide_eq_false; omega) | (rw [Bool.eq_iff_iff]; simp only [decide_eq_true_eq, ne_eq]; omega) | (simp_all; done) | (rw [Bool.eq_iff_iff]; simp_all; omega)
  · have HE := hidE (show badP ⟨kd, n, g, dd, ks⟩ = decide (4 < kd ∨ ks < 1 ∨ 16 < ks ∨ n ≠ 0 ∨ g ≠ 0 ∨ dd ≠ 0) by unfold badP; rw [if_neg hk])
    rw [HE.out]
    have k1 : ((kd : Int) == 0) = false := by simp; omega
    clear HE hk
    go_enter Tryz.func91, Tryz.ntmps91
    go_wp2
    all_goals
      go_ret
      refine ⟨ret_bool ?_, by (repeat (first | exact Below.refl _ _ | assumption | refine balloc ?_ _ | refine below_drewN ?_ _ | refine bstep (by assumption) ?_ | refine bstep (Past.prop _) ?_ | refine Below.setCell ?_ (by first | exact Nat.le_refl _ | (simp; done) | (simp; omega)) _))⟩
      first | (symm; apply decide_eq_true; omega) | (symm; apply decide_eq_false; omega) | (rw [Bool.eq_iff_iff]; simp only [decide_eq_true_eq, ne_eq]; omega) | (simp_all; done) | (rw [Bool.eq_iff_iff]; simp_all; omega)
set_option maxHeartbeats 2000000 in
theorem rea3_c (p d : Nat) (O : Nat → Nat × Nat) (x : Prt) (w : World) (hd : d ≤ 8) : Calls Tryz.prog 92 #[spV p d O, prtV x] w fun e w' => e = .returned (.bool (reasS p d O x 3)) ∧ Below w.heap.size w w' := by
  obtain ⟨kd, n, g, dd, ks⟩ := x
  show Calls _ _ _ _ fun e w' => e = .returned (.bool (decide (0 < d) && (decide ((O (d - 1)).1 = 2) && decide (kd ≠ 0)))) ∧ Below w.heap.size w w'
  rcases (show d = 0 ∨ d = 1 ∨ d = 2 ∨ d = 3 ∨ d = 4 ∨ d = 5 ∨ d = 6 ∨ d = 7 ∨ d = 8 by omega) with rfl | rfl | rfl | rfl | rfl | rfl | rfl | rfl | rfl
  all_goals
    simp only [Nat.reduceSub]
    simp only [spV, spC]
    generalize O 0 = o0; generalize O 1 = o1; generalize O 2 = o2; generalize O 3 = o3; generalize O 4 = o4; generalize O 5 = o5; generalize O 6 = o6; generalize O 7 = o7
    go_enter Tryz.func92, Tryz.ntmps92
    go_wp2
    all_goals
      go_ret
      refine ⟨ret_bool ?_, by (repeat (first | exact Below.refl _ _ | assumption | refine balloc ?_ _ | refine below_drewN ?_ _ | refine bstep (by assumption) ?_ | refine bstep (Past.prop _) ?_ | refine Below.setCell ?_ (by first | exact Nat.le_refl _ | (simp; done) | (simp; omega)) _))⟩
      first | (symm; apply decide_eq_true; omega) | (symm; apply decide_eq_false; omega) | (rw [Bool.eq_iff_iff]; simp only [Bool.and_eq_true, decide_eq_true_eq, bne_iff_ne, ne_eq]; omega) | (simp_all; done) | (rw [Bool.eq_iff_iff]; simp_all; omega)
end Go.Proofs.YtioalnncjahlnaaGreatDoor

namespace Go.Proofs.YtioalnncjahlnaaGreatDoor
open Go.ChangeShapes Go.WideShapes Go.ChangeAt Go.RowKit

theorem Blk.range {w : World} {k : Nat} {cs : Array Value} {t : TypeId} (h : Blk w k cs t) : w.rangeAt k 0 cs.toList := fun j v hv => by
  rw [Nat.zero_add, h.cell j]
  simpa using hv
theorem Blk.there {w : World} {k : Nat} {cs : Array Value} {t : TypeId} (h : Blk w k cs t) : w.there k 0 cs.size := fun j hj => by
  rw [Nat.zero_add, h.cell j]
  exact ⟨by simp [hj], h.free j⟩
theorem Blk.setCells_other {w : World} {k b : Nat} {cs : Array Value} {t : TypeId} (h : Blk w k cs t) (hb : k ≠ b) : ∀ (vs : List Value) (o : Nat), Blk (w.setCells b o vs) k cs t := by
  intro vs
  induction vs generalizing w with
  | nil => intro o; exact h
  | cons v r ih => intro o; exact ih (h.other hb v) (o + 1)
def setAll (cs : Array Value) : Nat → List Value → Array Value
  | _, [] => cs
  | o, v :: r => setAll (cs.setIfInBounds o v) (o + 1) r
theorem Blk.setCells {w : World} {k : Nat} {cs : Array Value} {t : TypeId} (h : Blk w k cs t) : ∀ (vs : List Value) (o : Nat), Blk (w.setCells k o vs) k (setAll cs o vs) t := by
  intro vs
  induction vs generalizing w cs with
  | nil => intro o; exact h
  | cons v r ih => intro o; exact ih (h.set o v) (o + 1)
theorem below_setCells {B k : Nat} {w w' : World} (h : Below B w w') (hk : B ≤ k) : ∀ (vs : List Value) (o : Nat), Below B w (w'.setCells k o vs) := by
  intro vs
  induction vs generalizing w' with
  | nil => intro o; exact h
  | cons v r ih => intro o; exact ih (h.setCell (p := ⟨k, o, none⟩) hk v) (o + 1)
/-- A result that is kept in a cell. -/
theorem results_cell {P : Program} {fn : Func} {tmps : Array Value} {w : World} {a : Nat} {t : TypeId} {x : Addr} {v : Value} (hr : fn.results = #[.cell a t]) (ha : tmps.getD a undef = .pointer (some x)) (h : (loadVar t x).run P w = .ok v w) : (results fn tmps).run P w = .ok v w := by
  unfold results
  rw [hr]
  have ha' : tmps[a]?.getD undef = .pointer (some x) := by simpa using ha
  simp [ha', asAddr, h]
end Go.Proofs.YtioalnncjahlnaaGreatDoor

namespace Go.Proofs.YtioalnncjahlnaaGreatDoor
open Go.ChangeShapes Go.WideShapes Go.ChangeAt Go.RowKit
attribute [local irreducible] Go.Calls

abbrev spZ : Array Value := #[.int .i64 0, .int .i64 0, .int .u8 0, .int .i64 0, .int .u8 0, .int .i64 0, .int .u8 0, .int .i64 0, .int .u8 0, .int .i64 0, .int .u8 0, .int .i64 0, .int .u8 0, .int .i64 0, .int .u8 0, .int .i64 0, .int .u8 0, .int .i64 0]
theorem Tryz.infoSpot : (Tryz.prog.info? 135).map (·.size) = some 18 := by kernel_rfl
theorem Tryz.undSpot : ∃ d, Tryz.prog.underlying 135 = some d ∧ d.isRow = true := ⟨_, Tryz.underlying135, rfl⟩
theorem spC_all (p d q e : Nat) (O O' : Nat → Nat × Nat) : setAll (spC p d O) 0 (spC q e O').toList = spC q e O' := by simp [setAll, spC]
theorem spC_allZ (q e : Nat) (O' : Nat → Nat × Nat) : setAll spZ 0 (spC q e O').toList = spC q e O' := by simp [setAll, spC, spZ]
theorem spC_one (p d : Nat) (O : Nat → Nat × Nat) : (spC p d O).all (·.oneCell') = true := by simp [Value.oneCell']
theorem spC_at (p d : Nat) (O : Nat → Nat × Nat) {m : Nat} (h : m < 8) : (spC p d O)[2 + m * 2]? = some (.int .u8 (O m).1) ∧ (spC p d O)[2 + m * 2 + 1]? = some (.int .i64 (O m).2) := by
  rcases (show m = 0 ∨ m = 1 ∨ m = 2 ∨ m = 3 ∨ m = 4 ∨ m = 5 ∨ m = 6 ∨ m = 7 by omega) with rfl | rfl | rfl | rfl | rfl | rfl | rfl | rfl <;> exact ⟨rfl, rfl⟩
theorem spC_set0 (p d : Nat) (O : Nat → Nat × Nat) (z : Int) (q : Nat) (h : z = q) : (spC p d O).setIfInBounds 0 (.int .i64 z) = spC q d O := by subst h; rfl
theorem spC_set1 (p d : Nat) (O : Nat → Nat × Nat) (z : Int) (q : Nat) (h : z = q) : (spC p d O).setIfInBounds 1 (.int .i64 z) = spC p q O := by subst h; rfl
theorem spC_left (p d : Nat) (O : Nat → Nat × Nat) {m : Nat} (hm : m < 8) (z : Int) (q : Nat) (h : z = q) : (spC p d O).setIfInBounds (2 + m * 2 + 1) (.int .i64 z) = spC p d (putO O m ((O m).1, q)) := by
  subst h
  rcases (show m = 0 ∨ m = 1 ∨ m = 2 ∨ m = 3 ∨ m = 4 ∨ m = 5 ∨ m = 6 ∨ m = 7 by omega) with rfl | rfl | rfl | rfl | rfl | rfl | rfl | rfl <;> rfl
theorem spC_put (p d : Nat) (O : Nat → Nat × Nat) {m : Nat} (hm : m < 8) (k : Nat) (z : Int) (q : Nat) (h : z = q) : ((spC p d O).setIfInBounds (2 + m * 2) (.int .u8 k)).setIfInBounds (2 + m * 2 + 1) (.int .i64 z) = spC p d (putO O m (k, q)) := by
  subst h
  rcases (show m = 0 ∨ m = 1 ∨ m = 2 ∨ m = 3 ∨ m = 4 ∨ m = 5 ∨ m = 6 ∨ m = 7 by omega) with rfl | rfl | rfl | rfl | rfl | rfl | rfl | rfl <;> rfl
theorem popN_stop {O : Nat → Nat × Nat} {d : Nat} (h : (O d).2 ≠ 0) : popN O (d + 1) = d + 1 := if_neg h
theorem popN_go {O : Nat → Nat × Nat} {d : Nat} (h : (O d).2 = 0) : popN O (d + 1) = popN O d := if_pos h
set_option maxRecDepth 100000 in
set_option maxHeartbeats 4000000 in
theorem beh8_c (p d : Nat) (O : Nat → Nat × Nat) (x : Prt) (w : World) (hp : p < 4611686018427387904) (hd : d ≤ 8) (hd2 : x.kind ≠ 0 → d < 8) (ht : d = 0 ∨ (O (d - 1)).2 ≠ 0) (hn : ∀ i, (O i).2 ≤ 16) (hk : 0 ≤ x.kids ∧ x.kids ≤ 16) :
    Calls Tryz.prog 71 #[spV p d O, prtV x] w fun e w' => e = .returned (spV (p + 1) (popN (nextO d O x) (nextD d x)) (nextO d O x)) ∧ Below w.heap.size w w' := by
  obtain ⟨O2, hO2⟩ : ∃ O2, O2 = nextO d O x := ⟨_, rfl⟩
  obtain ⟨D2, hD2⟩ : ∃ D2, D2 = nextD d x := ⟨_, rfl⟩
  have hD8 : D2 ≤ 8 := by
    rw [hD2]; unfold nextD
    split
    · exact hd
    · have := hd2 (by assumption); omega
  have hO16 : ∀ i, (O2 i).2 ≤ 16 := by
    intro i
    have hr : ∀ i, (rowO d O i).2 ≤ 16 := fun i => by
      unfold rowO
      split
      · exact hn i
      · unfold putO
        split
        · have := hn (d - 1); simp only; omega
        · exact hn i
    rw [hO2]; unfold nextO
    split
    · exact hr i
    · unfold putO
      split
      · simp only; omega
      · exact hr i
  rw [← hO2, ← hD2]
  obtain ⟨kd, n, g, dd, ks⟩ := x
  simp only at hk hd2
  obtain ⟨K, rfl⟩ : ∃ K : Nat, ks = (K : Int) := ⟨ks.toNat, by omega⟩
  go_enter Tryz.func71, Tryz.ntmps71
  go_upto_region 1 with fail
  obtain ⟨w1, hw1⟩ : ∃ w1, w1 = ((w.alloc (.cells (spC p d O) 135)).alloc (.cells #[.int .u8 kd, .int .u32 n, .int .u32 g, .int .i64 dd, .int .i64 K] 35)).alloc (.cells spZ 135) := ⟨_, rfl⟩
  have HB : Blk w1 w.heap.size (spC p d O) 135 := hw1 ▸ ((Blk.made w _ _).alloc _).alloc _
  have HP : Blk w1 (w.heap.size + 1) #[.int .u8 kd, .int .u32 n, .int .u32 g, .int .i64 dd, .int .i64 K] 35 := hw1 ▸ (Blk.made_at (w.alloc (.cells (spC p d O) 135)) _ _ (w.heap.size + 1) (by simp)).alloc _
  have HR : Blk w1 (w.heap.size + 1 + 1) spZ 135 := hw1 ▸ Blk.made_at _ _ _ (w.heap.size + 1 + 1) (by simp)
  have hb : Below w.heap.size w w1 := hw1 ▸ (by (repeat (first | exact Below.refl _ _ | assumption | refine balloc ?_ _ | refine below_drewN ?_ _ | refine bstep (by assumption) ?_ | refine bstep (Past.prop _) ?_ | refine Below.setCell ?_ (by first | exact Nat.le_refl _ | (simp; done) | (simp; omega)) _)))
  rw [← hw1]
  clear hw1
  have c0 : w1.cell? ⟨w.heap.size, 0, none⟩ = some (.int .i64 p) := HB.cell 0
  have f0 := HB.free; have z0 := HB.lt
  have p64 : IntKind.i64.wrap ((p : Int) + 1) = (p : Int) + 1 := IntWalk.i64_in _ (by omega)
  have H := hidE (And.intro HB (And.intro HP (And.intro HR hb)))
  clear HB HP HR hb
  go_upto_region 2 with fail
  obtain ⟨HB, HP, HR, hb⟩ := H.out
  obtain ⟨w2, hw2⟩ : ∃ w2, w2 = w1.setCell ⟨w.heap.size, 0, none⟩ (.int .i64 ((p : Int) + 1)) := ⟨_, rfl⟩
  replace HB : Blk w2 w.heap.size (spC (p + 1) d O) 135 := hw2 ▸ spC_set0 p d O ((p : Int) + 1) (p + 1) (by omega) ▸ HB.set 0 _
  replace HP : Blk w2 (w.heap.size + 1) #[.int .u8 kd, .int .u32 n, .int .u32 g, .int .i64 dd, .int .i64 K] 35 := hw2 ▸ HP.other (by omega) _
  replace HR : Blk w2 (w.heap.size + 1 + 1) spZ 135 := hw2 ▸ HR.other (by omega) _
  replace hb : Below w.heap.size w w2 := hw2 ▸ hb.setCell (p := ⟨w.heap.size, 0, none⟩) (Nat.le_refl _) _
  rw [← hw2]
  clear hw2 H c0 f0 z0 p64 w1
  by_cases hd0 : d = 0
  · have hO : rowO d O = O := if_pos hd0
    have c1 : w2.cell? ⟨w.heap.size, 1, none⟩ = some (.int .i64 d) := HB.cell 1
    have z0 := HB.lt
    have q1 : decide ((d : Int) > 0) = false := decide_eq_false (by omega)
    have q1' : decide (0 < d) = false := decide_eq_false (by omega)
    clear hd0
    have H := hidE (And.intro HB (And.intro HP (And.intro HR hb)))
    clear HB HP HR hb
    go_upto_region 4 with fail
    obtain ⟨HB, HP, HR, hb⟩ := H.out
    clear H c1 z0 q1 q1'
    rw [← hO] at HB
    clear hO
    obtain ⟨w3, hw3⟩ : ∃ w3, w3 = w2 := ⟨_, rfl⟩
    rw [← hw3] at HB HP HR hb
    rw [← hw3]
    clear hw3 w2
    have k0 : w3.cell? ⟨w.heap.size + 1, 0, none⟩ = some (.int .u8 kd) := HP.cell 0
    have z0 := HB.lt; have z1 := HP.lt
    by_cases hkd : kd = 0
    · have hO2' := hidE (show O2 = rowO d O from hO2.trans (if_pos hkd))
      have hD2' := hidE (show D2 = d from hD2.trans (if_pos hkd))
      have r1 : ((kd : Int) != 0) = false := by rw [hkd]; rfl
      clear hO2 hD2 hkd
      have H := hidE (And.intro HB (And.intro HP (And.intro HR hb)))
      clear HB HP HR hb
      go_wp2_with fail
      go_loopg [] D2 (fun gh wr => ∃ D' : Nat, D' ≤ D2 ∧ D' ≤ gh ∧ popN O2 D' = popN O2 D2 ∧ Blk wr w.heap.size (spC (p + 1) D' O2) 135 ∧ Blk wr (w.heap.size + 1 + 1) spZ 135 ∧ Below w.heap.size w wr)
      case atStart =>
        obtain ⟨HB, HP, HR, hb⟩ := H.out
        exact ⟨D2, Nat.le_refl _, Nat.le_refl _, rfl, by rw [hO2'.out, hD2'.out]; exact HB, HR, hb⟩
      case round =>
        obtain ⟨D', hDD, hgh, hpop, HB, HR, hb⟩ := hrel
        by_cases h0 : D' = 0
        · subst h0
          have HPE := hidE (show popN O2 D2 = 0 from hpop.symm)
          have z0 := HB.lt
          have H := hidE (And.intro HB (And.intro HR hb))
          have c1 : wr.cell? ⟨w.heap.size, 1, none⟩ = some (.int .i64 0) := HB.cell 1
          clear HB HR hb hpop
          go_upto_region 9 with fail
          obtain ⟨HB, HR, hb⟩ := H.out
          obtain ⟨ds, hu, hd⟩ := Tryz.undSpot
          refine wp_region_lit (wpList_load_mid rfl 135 (.tmp 2) rfl w.heap.size 0 rfl (spC (p + 1) (0) O2).toList ds HB.range hu hd Tryz.infoSpot ?_)
          refine wpList_store_mid rfl 135 (.tmp 4) (.tmp 56) rfl (w.heap.size + 1 + 1) 0 (spC (p + 1) (0) O2) rfl rfl HR.there Tryz.infoSpot (spC_one _ _ _) ?_
          have HF := spC_allZ (p + 1) (0) O2 ▸ HR.setCells (spC (p + 1) (0) O2).toList 0
          have hbF := below_setCells hb (show w.heap.size ≤ w.heap.size + 1 + 1 by omega) (spC (p + 1) (0) O2).toList 0
          generalize World.setCells wr _ _ _ = wz at *
          clear H HB HR hb
          go_wp2
          refine bodyPost_ret (v := spV (p + 1) (0) O2) ?_ rfl ⟨by rw [HPE.out], hbF⟩
          exact results_cell (fn := Tryz.f71) Tryz.results71 rfl (run_loadVar_mid wz (w.heap.size + 1 + 1) 0 135 (spC (p + 1) (0) O2).toList ds HF.range hu hd Tryz.infoSpot)
        · obtain ⟨m', rfl⟩ : ∃ m', D' = m' + 1 := ⟨D' - 1, by omega⟩
          have hm8 : m' < 8 := by omega
          have hn' := hO16 m'
          have c1 : wr.cell? ⟨w.heap.size, 1, none⟩ = some (.int .i64 ((m' : Int) + 1)) := (HB.cell 1).trans (by simp)
          have cL : wr.cell? ⟨w.heap.size, 2 + m' * 2 + 1, none⟩ = some (.int .i64 (O2 m').2) := (HB.cell _).trans (spC_at _ _ _ hm8).2
          have f0 := HB.free; have z0 := HB.lt
          have q1 : decide ((m' : Int) + 1 > 0) = true := decide_eq_true (by omega)
          have q2 : IntKind.i64.wrap ((m' : Int) + 1 - 1) = (m' : Int) := by rw [Int.add_sub_cancel]; exact IntWalk.i64_in _ (by omega)
          by_cases hz : (O2 m').2 = 0
          · have q3 : (((O2 m').2 : Int) == 0) = true := by rw [hz]; rfl
            have HG := hidE hgh
            have HPO := hidE ((popN_go hz).symm.trans hpop)
            have H := hidE (And.intro HB (And.intro HR hb))
            clear HB HR hb hgh hpop hz
            go_wp2
            go_roundg m'
            case measure => have := HG.out; omega
            case rel =>
              obtain ⟨HB, HR, hb⟩ := H.out
              exact ⟨m', by omega, Nat.le_refl _, HPO.out, spC_set1 (p + 1) (m' + 1) O2 (m' : Int) m' rfl ▸ HB.set 1 _, HR.other (by omega) _, hb.setCell (p := ⟨w.heap.size, 1, none⟩) (Nat.le_refl _) _⟩
          · have q3 : (((O2 m').2 : Int) == 0) = false := beq_eq_false_iff_ne.2 (by omega)
            have hst := popN_stop hz
            have HPE := hidE (show popN O2 D2 = m' + 1 from hpop.symm.trans hst)
            have z0 := HB.lt
            have H := hidE (And.intro HB (And.intro HR hb))
            clear HB HR hb hpop
            go_upto_region 9 with fail
            obtain ⟨HB, HR, hb⟩ := H.out
            obtain ⟨ds, hu, hd⟩ := Tryz.undSpot
            refine wp_region_lit (wpList_load_mid rfl 135 (.tmp 2) rfl w.heap.size 0 rfl (spC (p + 1) (m' + 1) O2).toList ds HB.range hu hd Tryz.infoSpot ?_)
            refine wpList_store_mid rfl 135 (.tmp 4) (.tmp 56) rfl (w.heap.size + 1 + 1) 0 (spC (p + 1) (m' + 1) O2) rfl rfl HR.there Tryz.infoSpot (spC_one _ _ _) ?_
            have HF := spC_allZ (p + 1) (m' + 1) O2 ▸ HR.setCells (spC (p + 1) (m' + 1) O2).toList 0
            have hbF := below_setCells hb (show w.heap.size ≤ w.heap.size + 1 + 1 by omega) (spC (p + 1) (m' + 1) O2).toList 0
            generalize World.setCells wr _ _ _ = wz at *
            clear H HB HR hb
            go_wp2
            refine bodyPost_ret (v := spV (p + 1) (m' + 1) O2) ?_ rfl ⟨by rw [HPE.out], hbF⟩
            exact results_cell (fn := Tryz.f71) Tryz.results71 rfl (run_loadVar_mid wz (w.heap.size + 1 + 1) 0 135 (spC (p + 1) (m' + 1) O2).toList ds HF.range hu hd Tryz.infoSpot)
    · have hd8 := hd2 hkd
      have hO2' := hidE (show O2 = putO (rowO d O) d (kd, K) from hO2.trans (if_neg hkd))
      have hD2' := hidE (show D2 = d + 1 from hD2.trans (if_neg hkd))
      have r1 : ((kd : Int) != 0) = true := bne_iff_ne.2 (by omega)
      have c1 : w3.cell? ⟨w.heap.size, 1, none⟩ = some (.int .i64 d) := HB.cell 1
      have k4 : w3.cell? ⟨w.heap.size + 1, 4, none⟩ = some (.int .i64 K) := HP.cell 4
      have f0 := HB.free
      have cA : w3.cell? ⟨w.heap.size, 2 + d * 2, none⟩ = some (.int .u8 (rowO d O d).1) := (HB.cell _).trans (spC_at _ _ _ hd8).1
      have cB : w3.cell? ⟨w.heap.size, 2 + d * 2 + 1, none⟩ = some (.int .i64 (rowO d O d).2) := (HB.cell _).trans (spC_at _ _ _ hd8).2
      have q4 : IntKind.i64.wrap ((d : Int) + 1) = (d : Int) + 1 := IntWalk.i64_in _ (by omega)
      clear hO2 hD2 hkd
      have H := hidE (And.intro HB (And.intro HP (And.intro HR hb)))
      clear HB HP HR hb
      go_upto_region 6 with fail
      obtain ⟨HB, HP, HR, hb⟩ := H.out
      obtain ⟨w4, hw4⟩ : ∃ w4, w4 = (w3.setCell ⟨w.heap.size, 2 + d * 2, none⟩ (.int .u8 kd)).setCell ⟨w.heap.size, 2 + d * 2 + 1, none⟩ (.int .i64 K) := ⟨_, rfl⟩
      replace HB : Blk w4 w.heap.size (spC (p + 1) d O2) 135 := hw4 ▸ hO2'.out ▸ spC_put (p + 1) d (rowO d O) hd8 kd K K rfl ▸ (HB.set _ _).set _ _
      replace HR : Blk w4 (w.heap.size + 1 + 1) spZ 135 := hw4 ▸ (HR.other (by omega) _).other (by omega) _
      replace hb : Below w.heap.size w w4 := hw4 ▸ (hb.setCell (p := ⟨w.heap.size, _, none⟩) (Nat.le_refl _) _).setCell (p := ⟨w.heap.size, _, none⟩) (Nat.le_refl _) _
      rw [← hw4]
      clear hw4 H c1 cA cB f0 z0 k0 k4 z1 HP w3
      have c1 : w4.cell? ⟨w.heap.size, 1, none⟩ = some (.int .i64 d) := HB.cell 1
      have f0 := HB.free; have z0 := HB.lt
      have H := hidE (And.intro HB (And.intro HR hb))
      clear HB HR hb
      go_wp2_with fail
      go_loopg [] D2 (fun gh wr => ∃ D' : Nat, D' ≤ D2 ∧ D' ≤ gh ∧ popN O2 D' = popN O2 D2 ∧ Blk wr w.heap.size (spC (p + 1) D' O2) 135 ∧ Blk wr (w.heap.size + 1 + 1) spZ 135 ∧ Below w.heap.size w wr)
      case atStart =>
        obtain ⟨HB, HR, hb⟩ := H.out
        exact ⟨D2, Nat.le_refl _, Nat.le_refl _, rfl, spC_set1 (p + 1) d O2 ((d : Int) + 1) D2 (by rw [hD2'.out]; omega) ▸ HB.set 1 _, HR.other (by omega) _, hb.setCell (p := ⟨w.heap.size, 1, none⟩) (Nat.le_refl _) _⟩
      case round =>
        obtain ⟨D', hDD, hgh, hpop, HB, HR, hb⟩ := hrel
        by_cases h0 : D' = 0
        · subst h0
          have HPE := hidE (show popN O2 D2 = 0 from hpop.symm)
          have z0 := HB.lt
          have H := hidE (And.intro HB (And.intro HR hb))
          have c1 : wr.cell? ⟨w.heap.size, 1, none⟩ = some (.int .i64 0) := HB.cell 1
          clear HB HR hb hpop
          go_upto_region 9 with fail
          obtain ⟨HB, HR, hb⟩ := H.out
          obtain ⟨ds, hu, hd⟩ := Tryz.undSpot
          refine wp_region_lit (wpList_load_mid rfl 135 (.tmp 2) rfl w.heap.size 0 rfl (spC (p + 1) (0) O2).toList ds HB.range hu hd Tryz.infoSpot ?_)
          refine wpList_store_mid rfl 135 (.tmp 4) (.tmp 56) rfl (w.heap.size + 1 + 1) 0 (spC (p + 1) (0) O2) rfl rfl HR.there Tryz.infoSpot (spC_one _ _ _) ?_
          have HF := spC_allZ (p + 1) (0) O2 ▸ HR.setCells (spC (p + 1) (0) O2).toList 0
          have hbF := below_setCells hb (show w.heap.size ≤ w.heap.size + 1 + 1 by omega) (spC (p + 1) (0) O2).toList 0
          generalize World.setCells wr _ _ _ = wz at *
          clear H HB HR hb
          go_wp2
          refine bodyPost_ret (v := spV (p + 1) (0) O2) ?_ rfl ⟨by rw [HPE.out], hbF⟩
          exact results_cell (fn := Tryz.f71) Tryz.results71 rfl (run_loadVar_mid wz (w.heap.size + 1 + 1) 0 135 (spC (p + 1) (0) O2).toList ds HF.range hu hd Tryz.infoSpot)
        · obtain ⟨m', rfl⟩ : ∃ m', D' = m' + 1 := ⟨D' - 1, by omega⟩
          have hm8 : m' < 8 := by omega
          have hn' := hO16 m'
          have c1 : wr.cell? ⟨w.heap.size, 1, none⟩ = some (.int .i64 ((m' : Int) + 1)) := (HB.cell 1).trans (by simp)
          have cL : wr.cell? ⟨w.heap.size, 2 + m' * 2 + 1, none⟩ = some (.int .i64 (O2 m').2) := (HB.cell _).trans (spC_at _ _ _ hm8).2
          have f0 := HB.free; have z0 := HB.lt
          have q1 : decide ((m' : Int) + 1 > 0) = true := decide_eq_true (by omega)
          have q2 : IntKind.i64.wrap ((m' : Int) + 1 - 1) = (m' : Int) := by rw [Int.add_sub_cancel]; exact IntWalk.i64_in _ (by omega)
          by_cases hz : (O2 m').2 = 0
          · have q3 : (((O2 m').2 : Int) == 0) = true := by rw [hz]; rfl
            have HG := hidE hgh
            have HPO := hidE ((popN_go hz).symm.trans hpop)
            have H := hidE (And.intro HB (And.intro HR hb))
            clear HB HR hb hgh hpop hz
            go_wp2
            go_roundg m'
            case measure => have := HG.out; omega
            case rel =>
              obtain ⟨HB, HR, hb⟩ := H.out
              exact ⟨m', by omega, Nat.le_refl _, HPO.out, spC_set1 (p + 1) (m' + 1) O2 (m' : Int) m' rfl ▸ HB.set 1 _, HR.other (by omega) _, hb.setCell (p := ⟨w.heap.size, 1, none⟩) (Nat.le_refl _) _⟩
          · have q3 : (((O2 m').2 : Int) == 0) = false := beq_eq_false_iff_ne.2 (by omega)
            have hst := popN_stop hz
            have HPE := hidE (show popN O2 D2 = m' + 1 from hpop.symm.trans hst)
            have z0 := HB.lt
            have H := hidE (And.intro HB (And.intro HR hb))
            clear HB HR hb hpop
            go_upto_region 9 with fail
            obtain ⟨HB, HR, hb⟩ := H.out
            obtain ⟨ds, hu, hd⟩ := Tryz.undSpot
            refine wp_region_lit (wpList_load_mid rfl 135 (.tmp 2) rfl w.heap.size 0 rfl (spC (p + 1) (m' + 1) O2).toList ds HB.range hu hd Tryz.infoSpot ?_)
            refine wpList_store_mid rfl 135 (.tmp 4) (.tmp 56) rfl (w.heap.size + 1 + 1) 0 (spC (p + 1) (m' + 1) O2) rfl rfl HR.there Tryz.infoSpot (spC_one _ _ _) ?_
            have HF := spC_allZ (p + 1) (m' + 1) O2 ▸ HR.setCells (spC (p + 1) (m' + 1) O2).toList 0
            have hbF := below_setCells hb (show w.heap.size ≤ w.heap.size + 1 + 1 by omega) (spC (p + 1) (m' + 1) O2).toList 0
            generalize World.setCells wr _ _ _ = wz at *
            clear H HB HR hb
            go_wp2
            refine bodyPost_ret (v := spV (p + 1) (m' + 1) O2) ?_ rfl ⟨by rw [HPE.out], hbF⟩
            exact results_cell (fn := Tryz.f71) Tryz.results71 rfl (run_loadVar_mid wz (w.heap.size + 1 + 1) 0 135 (spC (p + 1) (m' + 1) O2).toList ds HF.range hu hd Tryz.infoSpot)
  · obtain ⟨m, hm⟩ : ∃ m, d = m + 1 := ⟨d - 1, by omega⟩
    have hm8 : m < 8 := by omega
    have hnm := hn m
    have htm : (O m).2 ≠ 0 := by
      rcases ht with h | h
      · omega
      · rwa [hm, Nat.add_sub_cancel] at h
    have hO : rowO d O = putO O m ((O m).1, (O m).2 - 1) := by unfold rowO; rw [if_neg hd0, hm, Nat.add_sub_cancel]
    have c1 : w2.cell? ⟨w.heap.size, 1, none⟩ = some (.int .i64 d) := HB.cell 1
    have cL : w2.cell? ⟨w.heap.size, 2 + m * 2 + 1, none⟩ = some (.int .i64 (O m).2) := (HB.cell _).trans (spC_at _ _ _ hm8).2
    have f0 := HB.free; have z0 := HB.lt
    have q1 : decide ((d : Int) > 0) = true := decide_eq_true (by omega)
    have q1' : decide (0 < d) = true := decide_eq_true (by omega)
    have q2 : IntKind.i64.wrap ((d : Int) - 1) = (m : Int) := by rw [show (d : Int) - 1 = (m : Int) by omega]; exact IntWalk.i64_in _ (by omega)
    have q3 : IntKind.i64.wrap ((O m).2 - 1 : Int) = ((O m).2 - 1 : Int) := IntWalk.i64_in _ (by omega)
    clear hd0 ht hm
    have H := hidE (And.intro HB (And.intro HP (And.intro HR hb)))
    clear HB HP HR hb
    go_upto_region 4 with fail
    obtain ⟨HB, HP, HR, hb⟩ := H.out
    obtain ⟨w3, hw3⟩ : ∃ w3, w3 = w2.setCell ⟨w.heap.size, 2 + m * 2 + 1, none⟩ (.int .i64 ((O m).2 - 1 : Int)) := ⟨_, rfl⟩
    replace HB : Blk w3 w.heap.size (spC (p + 1) d (rowO d O)) 135 := hw3 ▸ hO ▸ spC_left (p + 1) d O hm8 ((O m).2 - 1 : Int) ((O m).2 - 1) (by omega) ▸ HB.set _ _
    replace HP : Blk w3 (w.heap.size + 1) #[.int .u8 kd, .int .u32 n, .int .u32 g, .int .i64 dd, .int .i64 K] 35 := hw3 ▸ HP.other (by omega) _
    replace HR : Blk w3 (w.heap.size + 1 + 1) spZ 135 := hw3 ▸ HR.other (by omega) _
    replace hb : Below w.heap.size w w3 := hw3 ▸ hb.setCell (p := ⟨w.heap.size, _, none⟩) (Nat.le_refl _) _
    rw [← hw3]
    clear hw3 H c1 cL f0 z0 q1 q1' q2 q3 hO htm hnm hm8 w2
    have k0 : w3.cell? ⟨w.heap.size + 1, 0, none⟩ = some (.int .u8 kd) := HP.cell 0
    have z0 := HB.lt; have z1 := HP.lt
    by_cases hkd : kd = 0
    · have hO2' := hidE (show O2 = rowO d O from hO2.trans (if_pos hkd))
      have hD2' := hidE (show D2 = d from hD2.trans (if_pos hkd))
      have r1 : ((kd : Int) != 0) = false := by rw [hkd]; rfl
      clear hO2 hD2 hkd
      have H := hidE (And.intro HB (And.intro HP (And.intro HR hb)))
      clear HB HP HR hb
      go_wp2_with fail
      go_loopg [] D2 (fun gh wr => ∃ D' : Nat, D' ≤ D2 ∧ D' ≤ gh ∧ popN O2 D' = popN O2 D2 ∧ Blk wr w.heap.size (spC (p + 1) D' O2) 135 ∧ Blk wr (w.heap.size + 1 + 1) spZ 135 ∧ Below w.heap.size w wr)
      case atStart =>
        obtain ⟨HB, HP, HR, hb⟩ := H.out
        exact ⟨D2, Nat.le_refl _, Nat.le_refl _, rfl, by rw [hO2'.out, hD2'.out]; exact HB, HR, hb⟩
      case round =>
        obtain ⟨D', hDD, hgh, hpop, HB, HR, hb⟩ := hrel
        by_cases h0 : D' = 0
        · subst h0
          have HPE := hidE (show popN O2 D2 = 0 from hpop.symm)
          have z0 := HB.lt
          have H := hidE (And.intro HB (And.intro HR hb))
          have c1 : wr.cell? ⟨w.heap.size, 1, none⟩ = some (.int .i64 0) := HB.cell 1
          clear HB HR hb hpop
          go_upto_region 9 with fail
          obtain ⟨HB, HR, hb⟩ := H.out
          obtain ⟨ds, hu, hd⟩ := Tryz.undSpot
          refine wp_region_lit (wpList_load_mid rfl 135 (.tmp 2) rfl w.heap.size 0 rfl (spC (p + 1) (0) O2).toList ds HB.range hu hd Tryz.infoSpot ?_)
          refine wpList_store_mid rfl 135 (.tmp 4) (.tmp 56) rfl (w.heap.size + 1 + 1) 0 (spC (p + 1) (0) O2) rfl rfl HR.there Tryz.infoSpot (spC_one _ _ _) ?_
          have HF := spC_allZ (p + 1) (0) O2 ▸ HR.setCells (spC (p + 1) (0) O2).toList 0
          have hbF := below_setCells hb (show w.heap.size ≤ w.heap.size + 1 + 1 by omega) (spC (p + 1) (0) O2).toList 0
          generalize World.setCells wr _ _ _ = wz at *
          clear H HB HR hb
          go_wp2
          refine bodyPost_ret (v := spV (p + 1) (0) O2) ?_ rfl ⟨by rw [HPE.out], hbF⟩
          exact results_cell (fn := Tryz.f71) Tryz.results71 rfl (run_loadVar_mid wz (w.heap.size + 1 + 1) 0 135 (spC (p + 1) (0) O2).toList ds HF.range hu hd Tryz.infoSpot)
        · obtain ⟨m', rfl⟩ : ∃ m', D' = m' + 1 := ⟨D' - 1, by omega⟩
          have hm8 : m' < 8 := by omega
          have hn' := hO16 m'
          have c1 : wr.cell? ⟨w.heap.size, 1, none⟩ = some (.int .i64 ((m' : Int) + 1)) := (HB.cell 1).trans (by simp)
          have cL : wr.cell? ⟨w.heap.size, 2 + m' * 2 + 1, none⟩ = some (.int .i64 (O2 m').2) := (HB.cell _).trans (spC_at _ _ _ hm8).2
          have f0 := HB.free; have z0 := HB.lt
          have q1 : decide ((m' : Int) + 1 > 0) = true := decide_eq_true (by omega)
          have q2 : IntKind.i64.wrap ((m' : Int) + 1 - 1) = (m' : Int) := by rw [Int.add_sub_cancel]; exact IntWalk.i64_in _ (by omega)
          by_cases hz : (O2 m').2 = 0
          · have q3 : (((O2 m').2 : Int) == 0) = true := by rw [hz]; rfl
            have HG := hidE hgh
            have HPO := hidE ((popN_go hz).symm.trans hpop)
            have H := hidE (And.intro HB (And.intro HR hb))
            clear HB HR hb hgh hpop hz
            go_wp2
            go_roundg m'
            case measure => have := HG.out; omega
            case rel =>
              obtain ⟨HB, HR, hb⟩ := H.out
              exact ⟨m', by omega, Nat.le_refl _, HPO.out, spC_set1 (p + 1) (m' + 1) O2 (m' : Int) m' rfl ▸ HB.set 1 _, HR.other (by omega) _, hb.setCell (p := ⟨w.heap.size, 1, none⟩) (Nat.le_refl _) _⟩
          · have q3 : (((O2 m').2 : Int) == 0) = false := beq_eq_false_iff_ne.2 (by omega)
            have hst := popN_stop hz
            have HPE := hidE (show popN O2 D2 = m' + 1 from hpop.symm.trans hst)
            have z0 := HB.lt
            have H := hidE (And.intro HB (And.intro HR hb))
            clear HB HR hb hpop
            go_upto_region 9 with fail
            obtain ⟨HB, HR, hb⟩ := H.out
            obtain ⟨ds, hu, hd⟩ := Tryz.undSpot
            refine wp_region_lit (wpList_load_mid rfl 135 (.tmp 2) rfl w.heap.size 0 rfl (spC (p + 1) (m' + 1) O2).toList ds HB.range hu hd Tryz.infoSpot ?_)
            refine wpList_store_mid rfl 135 (.tmp 4) (.tmp 56) rfl (w.heap.size + 1 + 1) 0 (spC (p + 1) (m' + 1) O2) rfl rfl HR.there Tryz.infoSpot (spC_one _ _ _) ?_
            have HF := spC_allZ (p + 1) (m' + 1) O2 ▸ HR.setCells (spC (p + 1) (m' + 1) O2).toList 0
            have hbF := below_setCells hb (show w.heap.size ≤ w.heap.size + 1 + 1 by omega) (spC (p + 1) (m' + 1) O2).toList 0
            generalize World.setCells wr _ _ _ = wz at *
            clear H HB HR hb
            go_wp2
            refine bodyPost_ret (v := spV (p + 1) (m' + 1) O2) ?_ rfl ⟨by rw [HPE.out], hbF⟩
            exact results_cell (fn := Tryz.f71) Tryz.results71 rfl (run_loadVar_mid wz (w.heap.size + 1 + 1) 0 135 (spC (p + 1) (m' + 1) O2).toList ds HF.range hu hd Tryz.infoSpot)
    · have hd8 := hd2 hkd
      have hO2' := hidE (show O2 = putO (rowO d O) d (kd, K) from hO2.trans (if_neg hkd))
      have hD2' := hidE (show D2 = d + 1 from hD2.trans (if_neg hkd))
      have r1 : ((kd : Int) != 0) = true := bne_iff_ne.2 (by omega)
      have c1 : w3.cell? ⟨w.heap.size, 1, none⟩ = some (.int .i64 d) := HB.cell 1
      have k4 : w3.cell? ⟨w.heap.size + 1, 4, none⟩ = some (.int .i64 K) := HP.cell 4
      have f0 := HB.free
      have cA : w3.cell? ⟨w.heap.size, 2 + d * 2, none⟩ = some (.int .u8 (rowO d O d).1) := (HB.cell _).trans (spC_at _ _ _ hd8).1
      have cB : w3.cell? ⟨w.heap.size, 2 + d * 2 + 1, none⟩ = some (.int .i64 (rowO d O d).2) := (HB.cell _).trans (spC_at _ _ _ hd8).2
      have q4 : IntKind.i64.wrap ((d : Int) + 1) = (d : Int) + 1 := IntWalk.i64_in _ (by omega)
      clear hO2 hD2 hkd
      have H := hidE (And.intro HB (And.intro HP (And.intro HR hb)))
      clear HB HP HR hb
      go_upto_region 6 with fail
      obtain ⟨HB, HP, HR, hb⟩ := H.out
      obtain ⟨w4, hw4⟩ : ∃ w4, w4 = (w3.setCell ⟨w.heap.size, 2 + d * 2, none⟩ (.int .u8 kd)).setCell ⟨w.heap.size, 2 + d * 2 + 1, none⟩ (.int .i64 K) := ⟨_, rfl⟩
      replace HB : Blk w4 w.heap.size (spC (p + 1) d O2) 135 := hw4 ▸ hO2'.out ▸ spC_put (p + 1) d (rowO d O) hd8 kd K K rfl ▸ (HB.set _ _).set _ _
      replace HR : Blk w4 (w.heap.size + 1 + 1) spZ 135 := hw4 ▸ (HR.other (by omega) _).other (by omega) _
      replace hb : Below w.heap.size w w4 := hw4 ▸ (hb.setCell (p := ⟨w.heap.size, _, none⟩) (Nat.le_refl _) _).setCell (p := ⟨w.heap.size, _, none⟩) (Nat.le_refl _) _
      rw [← hw4]
      clear hw4 H c1 cA cB f0 z0 k0 k4 z1 HP w3
      have c1 : w4.cell? ⟨w.heap.size, 1, none⟩ = some (.int .i64 d) := HB.cell 1
      have f0 := HB.free; have z0 := HB.lt
      have H := hidE (And.intro HB (And.intro HR hb))
      clear HB HR hb
      go_wp2_with fail
      go_loopg [] D2 (fun gh wr => ∃ D' : Nat, D' ≤ D2 ∧ D' ≤ gh ∧ popN O2 D' = popN O2 D2 ∧ Blk wr w.heap.size (spC (p + 1) D' O2) 135 ∧ Blk wr (w.heap.size + 1 + 1) spZ 135 ∧ Below w.heap.size w wr)
      case atStart =>
        obtain ⟨HB, HR, hb⟩ := H.out
        exact ⟨D2, Nat.le_refl _, Nat.le_refl _, rfl, spC_set1 (p + 1) d O2 ((d : Int) + 1) D2 (by rw [hD2'.out]; omega) ▸ HB.set 1 _, HR.other (by omega) _, hb.setCell (p := ⟨w.heap.size, 1, none⟩) (Nat.le_refl _) _⟩
      case round =>
        obtain ⟨D', hDD, hgh, hpop, HB, HR, hb⟩ := hrel
        by_cases h0 : D' = 0
        · subst h0
          have HPE := hidE (show popN O2 D2 = 0 from hpop.symm)
          have z0 := HB.lt
          have H := hidE (And.intro HB (And.intro HR hb))
          have c1 : wr.cell? ⟨w.heap.size, 1, none⟩ = some (.int .i64 0) := HB.cell 1
          clear HB HR hb hpop
          go_upto_region 9 with fail
          obtain ⟨HB, HR, hb⟩ := H.out
          obtain ⟨ds, hu, hd⟩ := Tryz.undSpot
          refine wp_region_lit (wpList_load_mid rfl 135 (.tmp 2) rfl w.heap.size 0 rfl (spC (p + 1) (0) O2).toList ds HB.range hu hd Tryz.infoSpot ?_)
          refine wpList_store_mid rfl 135 (.tmp 4) (.tmp 56) rfl (w.heap.size + 1 + 1) 0 (spC (p + 1) (0) O2) rfl rfl HR.there Tryz.infoSpot (spC_one _ _ _) ?_
          have HF := spC_allZ (p + 1) (0) O2 ▸ HR.setCells (spC (p + 1) (0) O2).toList 0
          have hbF := below_setCells hb (show w.heap.size ≤ w.heap.size + 1 + 1 by omega) (spC (p + 1) (0) O2).toList 0
          generalize World.setCells wr _ _ _ = wz at *
          clear H HB HR hb
          go_wp2
          refine bodyPost_ret (v := spV (p + 1) (0) O2) ?_ rfl ⟨by rw [HPE.out], hbF⟩
          exact results_cell (fn := Tryz.f71) Tryz.results71 rfl (run_loadVar_mid wz (w.heap.size + 1 + 1) 0 135 (spC (p + 1) (0) O2).toList ds HF.range hu hd Tryz.infoSpot)
        · obtain ⟨m', rfl⟩ : ∃ m', D' = m' + 1 := ⟨D' - 1, by omega⟩
          have hm8 : m' < 8 := by omega
          have hn' := hO16 m'
          have c1 : wr.cell? ⟨w.heap.size, 1, none⟩ = some (.int .i64 ((m' : Int) + 1)) := (HB.cell 1).trans (by simp)
          have cL : wr.cell? ⟨w.heap.size, 2 + m' * 2 + 1, none⟩ = some (.int .i64 (O2 m').2) := (HB.cell _).trans (spC_at _ _ _ hm8).2
          have f0 := HB.free; have z0 := HB.lt
          have q1 : decide ((m' : Int) + 1 > 0) = true := decide_eq_true (by omega)
          have q2 : IntKind.i64.wrap ((m' : Int) + 1 - 1) = (m' : Int) := by rw [Int.add_sub_cancel]; exact IntWalk.i64_in _ (by omega)
          by_cases hz : (O2 m').2 = 0
          · have q3 : (((O2 m').2 : Int) == 0) = true := by rw [hz]; rfl
            have HG := hidE hgh
            have HPO := hidE ((popN_go hz).symm.trans hpop)
            have H := hidE (And.intro HB (And.intro HR hb))
            clear HB HR hb hgh hpop hz
            go_wp2
            go_roundg m'
            case measure => have := HG.out; omega
            case rel =>
              obtain ⟨HB, HR, hb⟩ := H.out
              exact ⟨m', by omega, Nat.le_refl _, HPO.out, spC_set1 (p + 1) (m' + 1) O2 (m' : Int) m' rfl ▸ HB.set 1 _, HR.other (by omega) _, hb.setCell (p := ⟨w.heap.size, 1, none⟩) (Nat.le_refl _) _⟩
          · have q3 : (((O2 m').2 : Int) == 0) = false := beq_eq_false_iff_ne.2 (by omega)
            have hst := popN_stop hz
            have HPE := hidE (show popN O2 D2 = m' + 1 from hpop.symm.trans hst)
            have z0 := HB.lt
            have H := hidE (And.intro HB (And.intro HR hb))
            clear HB HR hb hpop
            go_upto_region 9 with fail
            obtain ⟨HB, HR, hb⟩ := H.out
            obtain ⟨ds, hu, hd⟩ := Tryz.undSpot
            refine wp_region_lit (wpList_load_mid rfl 135 (.tmp 2) rfl w.heap.size 0 rfl (spC (p + 1) (m' + 1) O2).toList ds HB.range hu hd Tryz.infoSpot ?_)
            refine wpList_store_mid rfl 135 (.tmp 4) (.tmp 56) rfl (w.heap.size + 1 + 1) 0 (spC (p + 1) (m' + 1) O2) rfl rfl HR.there Tryz.infoSpot (spC_one _ _ _) ?_
            have HF := spC_allZ (p + 1) (m' + 1) O2 ▸ HR.setCells (spC (p + 1) (m' + 1) O2).toList 0
            have hbF := below_setCells hb (show w.heap.size ≤ w.heap.size + 1 + 1 by omega) (spC (p + 1) (m' + 1) O2).toList 0
            generalize World.setCells wr _ _ _ = wz at *
            clear H HB HR hb
            go_wp2
            refine bodyPost_ret (v := spV (p + 1) (m' + 1) O2) ?_ rfl ⟨by rw [HPE.out], hbF⟩
            exact results_cell (fn := Tryz.f71) Tryz.results71 rfl (run_loadVar_mid wz (w.heap.size + 1 + 1) 0 135 (spC (p + 1) (m' + 1) O2).toList ds HF.range hu hd Tryz.infoSpot)
end Go.Proofs.YtioalnncjahlnaaGreatDoor
