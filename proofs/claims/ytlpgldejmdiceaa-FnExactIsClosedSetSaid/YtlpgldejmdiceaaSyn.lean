/- IsClosedSet of spec and impl. -/
import Derived.Test.YtlpgldejmdiceaaSym
namespace Go.Proofs.Ytlpgldejmdiceaa.syn
open kit bg sg opn strs only hb sig isig un over gn nm inn ht gd im pt marks eqs hc hi hw hn rs br bm bw cf lf ib isa lawb lw cl bgs cz syx sya syh syi syc syg syb syk syl sym has
open Go.RowKit
set_option linter.unusedVariables false
set_option linter.unusedSimpArgs false
theorem clsQ_no1 {n : Nat} {ts : List Tri} {gs : List Int} (h : goodB n ts = false) : clsQ n ts gs = false ∧ clsV n ts gs = false := by unfold clsV clsQ; rw [h]; exact ⟨rfl, rfl⟩
theorem clsQ_no2 {n : Nat} {ts : List Tri} {gs : List Int} (h : golB n gs = false) : clsQ n ts gs = false ∧ clsV n ts gs = false := by unfold clsV clsQ; rw [h, Bool.and_false]; exact ⟨rfl, rfl⟩
theorem clsQ_yes {n : Nat} {ts : List Tri} {gs : List Int} (h : goodB n ts = true) (h' : golB n gs = true) : clsQ n ts gs = true ∧ clsV n ts gs = !ts.any (leaves gs) := by unfold clsV clsQ; rw [h, h']; exact ⟨rfl, rfl⟩

set_option maxRecDepth 20000 in
set_option maxHeartbeats 3200000 in
theorem sCls_any (v : Value) (x : Sysm) (A : Option Addr) (n c : Nat) (gs : List Int) (w : World) (hv : SysAt w w.heap.size v x) (hs : sysWt x ≤ 1048576) (hg : IntsAt w w.heap.size A n gs) (hn : n ≤ 1048576) :
    Calls Try.prog 34 #[v, .slice A n c] w fun e w' => e = .returned (.tuple #[.bool (clsV x.states.length x.steps gs), .bool (clsQ x.states.length x.steps gs)]) ∧ Below w.heap.size w w' := by
  obtain ⟨A1, n1, c1, A2, n2, c2, rfl, h1, h2⟩ := hv
  have hl1 := h1.1
  have hl2 := h2.1
  have hn1 : n1 ≤ 1048576 := by unfold sysWt bgsWt at hs; omega
  have hn2 : n2 ≤ 1048576 := by unfold sysWt bgsWt at hs; omega
  have HB0 := Lib.hid ((Below.refl w.heap.size w).alloc (Nat.le_refl _) (.cells #[.slice A1 n1 c1, .slice A2 n2 c2] 32))
  have HBx := Lib.hid (BoxN.new w #[.slice A1 n1 c1, .slice A2 n2 c2] 32)
  obtain ⟨W, hW⟩ : ∃ W, w.alloc (.cells #[.slice A1 n1 c1, .slice A2 n2 c2] 32) = W := ⟨_, rfl⟩
  rw [hW] at HBx HB0
  have HWq := Lib.hid hW
  have hWs := HBx.out.lt
  have HX : Hid (SysAt W W.heap.size (.agg #[.slice A1 n1 c1, .slice A2 n2 c2]) x) := Lib.hid (((show SysAt w w.heap.size _ x from ⟨A1, n1, c1, A2, n2, c2, rfl, h1, h2⟩).below HB0.out).wide HB0.out.size)
  have HT := Lib.hid ((h2.below HB0.out).wide HB0.out.size)
  have HL2 := Lib.hid hl2
  have HS := Lib.hid hs
  obtain ⟨x0, x1⟩ := box2 HBx.out
  have HG := Lib.hid ((hg.below HB0.out).wide HB0.out.size)
  have CG := good_any _ x W HX.out hs
  have HCo := Lib.hid (fun (Y : World) (hY : Below W.heap.size W Y) => goals_any A1 A2 n1 c1 n2 c2 A n c gs Y ((HG.out.below hY).wide hY.size) hn1 hn)
  rw [hl1] at CG
  rw [hl1]
  have HLen := Lib.hid hl1
  obtain ⟨ts, hts⟩ : ∃ ts, x.steps = ts := ⟨_, rfl⟩
  rw [hts] at HT CG HL2 ⊢
  obtain ⟨V, hV⟩ : ∃ V, clsV n1 ts gs = V := ⟨_, rfl⟩
  obtain ⟨Q, hQ⟩ : ∃ Q, clsQ n1 ts gs = Q := ⟨_, rfl⟩
  rw [hV, hQ]
  have HVQ : Hid (clsQ n1 ts gs = Q ∧ clsV n1 ts gs = V) := Lib.hid ⟨hQ, hV⟩
  clear hW h1 h2 hg hV hQ hl1 hl2 hts
  go_enter Try.func34, Try.ntmps34
  go_wp2_with fail
  rw [HWq.out]
  go_wp2_with fail
  refine CG.mono ?_
  rintro e w1 ⟨rfl, hb1⟩
  clear CG x0 x1
  obtain ⟨x0, x1⟩ := box2 (HBx.out.below hb1 hWs)
  have HB1 := Lib.hid hb1
  have CO := HCo.out w1 hb1
  clear hb1
  cases hq1 : goodB n1 ts with
  | false =>
    have HF : Hid (Q = false ∧ V = false) := Lib.hid (by rw [← HVQ.out.1, ← HVQ.out.2]; exact clsQ_no1 hq1)
    clear hq1
    go_wp2_with fail
    refine bodyPost_ret (results_tmp2 rfl _ _ _) rfl ?_
    exact ⟨by rw [HF.out.1, HF.out.2]; rfl, HB0.out.trans (HB1.out.mono HB0.out.size)⟩
  | true =>
    have HQ1 := Lib.hid hq1
    clear hq1
    go_wp2_with fail
    refine CO.mono ?_
    rintro e w2 ⟨rfl, hb⟩
    have HB2 := Lib.hid (HB1.out.trans (hb.mono HB1.out.size))
    clear CO x0 x1 hb
    obtain ⟨x0, x1⟩ := box2 (HBx.out.below HB2.out hWs)
    cases hq2 : golB n1 gs with
    | false =>
      have HF : Hid (Q = false ∧ V = false) := Lib.hid (by rw [← HVQ.out.1, ← HVQ.out.2]; exact clsQ_no2 hq2)
      clear hq2
      go_wp2_with fail
      refine bodyPost_ret (results_tmp2 rfl _ _ _) rfl ?_
      exact ⟨by rw [HF.out.1, HF.out.2]; rfl, HB0.out.trans (HB2.out.mono HB0.out.size)⟩
    | true =>
      have HT2 : Hid (Q = true ∧ V = !ts.any (leaves gs)) := Lib.hid (by rw [← HVQ.out.1, ← HVQ.out.2]; exact clsQ_yes HQ1.out hq2)
      clear hq2
      go_wp2_with fail
      clear x0 x1
      go_loopw [6] (fun i wr => ∃ k : Nat, k ≤ n2 ∧ i = .int .i64 k ∧ (∀ (j : Nat) s, j < k → ts[j]? = some s → leaves gs s = false) ∧ w2 = wr) (fun i _ => n2 - (intOf i).toNat)
      case atStart => exact ⟨0, Nat.zero_le _, rfl, fun j s hj => absurd hj (Nat.not_lt_zero j), rfl⟩
      case round =>
        obtain ⟨k, hk, rfl, hok, rfl⟩ := hrel
        have HOk := Lib.hid hok
        clear hok
        obtain ⟨x0, x1⟩ := box2 (HBx.out.below HB2.out hWs)
        by_cases hlt : k < n2
        · obtain ⟨g, off, s, rfl, hbb, hx, e0, e1, e2⟩ := (HT.out.below HB2.out).get hlt
          have HX := Lib.hid hx
          have C1 := l1Has_any A n c gs s.1 w2 W.heap.size (HG.out.below HB2.out) hn
          have C2 := l1Has_any A n c gs s.2.2 w2 W.heap.size (HG.out.below HB2.out) hn
          have HLv : Hid (leaves gs s = (hasB gs s.1 && !hasB gs s.2.2)) := Lib.hid rfl
          clear hx
          cases ha : hasB gs s.1 with
          | false =>
            have HN : Hid (leaves gs s = false) := Lib.hid (by rw [HLv.out, ha]; rfl)
            rw [ha] at C1
            clear ha
            go_wp2_with fail
            refine C1.mono ?_
            rintro e w3 ⟨rfl, rfl⟩
            clear C1 C2
            go_wp2_with fail
            go_roundw
            case rel => exact ⟨k + 1, by omega, by go_num, fun j' s' hj' hs' => by
              by_cases e : j' = k
              · subst e; rw [HX.out] at hs'; injection hs' with e; subst e; exact HN.out
              · exact HOk.out j' s' (by omega) hs', by first | trivial | rfl⟩
            case measure => simp [intOf]; omega
          | true =>
            rw [ha] at C1
            cases hb : hasB gs s.2.2 with
            | true =>
              have HN : Hid (leaves gs s = false) := Lib.hid (by rw [HLv.out, hb]; simp)
              rw [hb] at C2
              clear ha hb
              go_wp2_with fail
              refine C1.mono ?_
              rintro e w3 ⟨rfl, rfl⟩
              clear C1
              go_wp2_with fail
              refine C2.mono ?_
              rintro e w3 ⟨rfl, rfl⟩
              clear C2
              go_wp2_with fail
              go_roundw
              case rel => exact ⟨k + 1, by omega, by go_num, fun j' s' hj' hs' => by
                by_cases e : j' = k
                · subst e; rw [HX.out] at hs'; injection hs' with e; subst e; exact HN.out
                · exact HOk.out j' s' (by omega) hs', by first | trivial | rfl⟩
              case measure => simp [intOf]; omega
            | false =>
              have HY : Hid (leaves gs s = true) := Lib.hid (by rw [HLv.out, ha, hb]; rfl)
              rw [hb] at C2
              have HF : Hid (V = false) := Lib.hid (by rw [HT2.out.2, List.any_eq_true.2 ⟨s, List.mem_of_getElem? HX.out, HY.out⟩]; rfl)
              clear ha hb
              go_wp2_with fail
              refine C1.mono ?_
              rintro e w3 ⟨rfl, rfl⟩
              clear C1
              go_wp2_with fail
              refine C2.mono ?_
              rintro e w3 ⟨rfl, rfl⟩
              clear C2
              go_wp2_with fail
              refine bodyPost_ret (results_tmp2 rfl _ _ _) rfl ?_
              exact ⟨by rw [HF.out, HT2.out.1]; rfl, HB0.out.trans (HB2.out.mono HB0.out.size)⟩
        · obtain rfl : k = n2 := by omega
          have HF : Hid (V = true) := Lib.hid (by rw [HT2.out.2, foundT_none (by rw [HL2.out]; exact HOk.out)]; rfl)
          go_wp2_with fail
          refine bodyPost_ret (results_tmp2 rfl _ _ _) rfl ?_
          exact ⟨by rw [HF.out, HT2.out.1]; rfl, HB0.out.trans (HB2.out.mono HB0.out.size)⟩

set_option maxRecDepth 20000 in
set_option maxHeartbeats 3200000 in
theorem iCls_any (v : Value) (x : Sysm) (A : Option Addr) (n c : Nat) (gs : List Int) (w : World) (hv : SysAt w w.heap.size v x) (hs : sysWt x ≤ 1048576) (hg : IntsAt w w.heap.size A n gs) (hn : n ≤ 1048576) :
    Calls Try.prog 35 #[v, .slice A n c] w fun e w' => e = .returned (.tuple #[.bool (clsV x.states.length x.steps gs), .bool (clsQ x.states.length x.steps gs)]) ∧ Below w.heap.size w w' := by
  obtain ⟨A1, n1, c1, A2, n2, c2, rfl, h1, h2⟩ := hv
  have hl1 := h1.1
  have hl2 := h2.1
  have hn1 : n1 ≤ 1048576 := by unfold sysWt bgsWt at hs; omega
  have hn2 : n2 ≤ 1048576 := by unfold sysWt bgsWt at hs; omega
  have hb0 := ((Below.refl w.heap.size w).alloc (Nat.le_refl _) (.cells #[.slice A1 n1 c1, .slice A2 n2 c2] 32)).alloc (by simp) (.cells #[.slice A n c] 38)
  have hBx := (BoxN.new w #[.slice A1 n1 c1, .slice A2 n2 c2] 32).below ((Below.refl _ _).alloc (Nat.le_refl _) (.cells #[.slice A n c] 38)) (by simp)
  have hBg := BoxN.new (w.alloc (.cells #[.slice A1 n1 c1, .slice A2 n2 c2] 32)) #[.slice A n c] 38
  rw [World.size_alloc] at hBg
  obtain ⟨W, hW⟩ : ∃ W, (w.alloc (.cells #[.slice A1 n1 c1, .slice A2 n2 c2] 32)).alloc (.cells #[.slice A n c] 38) = W := ⟨_, rfl⟩
  rw [hW] at hBx hb0 hBg
  have HB0 := Lib.hid hb0
  have HBx := Lib.hid hBx
  have HBg := Lib.hid hBg
  have HWq := Lib.hid hW
  have hWs := HBx.out.lt
  have hWg := HBg.out.lt
  have HX : Hid (SysAt W W.heap.size (.agg #[.slice A1 n1 c1, .slice A2 n2 c2]) x) := Lib.hid (((show SysAt w w.heap.size _ x from ⟨A1, n1, c1, A2, n2, c2, rfl, h1, h2⟩).below hb0).wide hb0.size)
  have HT := Lib.hid ((h2.below hb0).wide hb0.size)
  have HG := Lib.hid ((hg.below hb0).wide hb0.size)
  obtain ⟨x0, x1⟩ := box2 hBx
  have z0 := hBg.cell (i := 0) rfl
  have CG := isSys_any _ x W HX.out hs
  have HCo := Lib.hid (fun (Y : World) (hY : Below W.heap.size W Y) => areSt_any A1 A2 n1 c1 n2 c2 A n c gs Y ((HG.out.below hY).wide hY.size) hn1 hn)
  rw [hl1] at CG
  rw [hl1]
  obtain ⟨ts, hts⟩ : ∃ ts, x.steps = ts := ⟨_, rfl⟩
  rw [hts] at HT CG ⊢
  obtain ⟨V, hV⟩ : ∃ V, clsV n1 ts gs = V := ⟨_, rfl⟩
  obtain ⟨Q, hQ⟩ : ∃ Q, clsQ n1 ts gs = Q := ⟨_, rfl⟩
  rw [hV, hQ]
  have HVQ : Hid (clsQ n1 ts gs = Q ∧ clsV n1 ts gs = V) := Lib.hid ⟨hQ, hV⟩
  clear hW h1 h2 hg hV hQ hl1 hl2 hts hb0 hBx hBg hs
  go_enter Try.func35, Try.ntmps35
  go_wp2_with fail
  rw [HWq.out]
  go_wp2_with fail
  refine CG.mono ?_
  rintro e w1 ⟨rfl, hb1⟩
  clear CG x0 x1 z0
  obtain ⟨x0, x1⟩ := box2 (HBx.out.below hb1 hWs)
  have z0 := (HBg.out.below hb1 hWg).cell (i := 0) rfl
  have HB1 := Lib.hid hb1
  have CO := HCo.out w1 hb1
  clear hb1
  cases hq1 : goodB n1 ts with
  | false =>
    have HF : Hid (Q = false ∧ V = false) := Lib.hid (by rw [← HVQ.out.1, ← HVQ.out.2]; exact clsQ_no1 hq1)
    clear hq1
    go_wp2_with fail
    refine bodyPost_ret (results_tmp2 rfl _ _ _) rfl ?_
    exact ⟨by rw [HF.out.1, HF.out.2]; rfl, HB0.out.trans (HB1.out.mono HB0.out.size)⟩
  | true =>
    have HQ1 := Lib.hid hq1
    clear hq1
    go_wp2_with fail
    refine CO.mono ?_
    rintro e w2 ⟨rfl, hb⟩
    have HB2 := Lib.hid (HB1.out.trans (hb.mono HB1.out.size))
    clear CO x0 x1 z0 hb
    obtain ⟨x0, x1⟩ := box2 (HBx.out.below HB2.out hWs)
    have z0 := (HBg.out.below HB2.out hWg).cell (i := 0) rfl
    cases hq2 : golB n1 gs with
    | false =>
      have HF : Hid (Q = false ∧ V = false) := Lib.hid (by rw [← HVQ.out.1, ← HVQ.out.2]; exact clsQ_no2 hq2)
      clear hq2
      go_wp2_with fail
      refine bodyPost_ret (results_tmp2 rfl _ _ _) rfl ?_
      exact ⟨by rw [HF.out.1, HF.out.2]; rfl, HB0.out.trans (HB2.out.mono HB0.out.size)⟩
    | true =>
      have HT2 : Hid (Q = true ∧ V = !ts.any (leaves gs)) := Lib.hid (by rw [← HVQ.out.1, ← HVQ.out.2]; exact clsQ_yes HQ1.out hq2)
      have C := conT_any 79 #[.pointer (some ⟨w.heap.size + 1, 0, none⟩)] (leaves gs) (fun _ _ => by rfl) A2 n2 c2 ts W w2 (fun s Y _ hY => cls1_any (w.heap.size + 1) A n c gs s Y ((HBg.out.below (HB2.out.trans (hY.mono HB2.out.size)) hWg).cell (i := 0) rfl) (Nat.lt_of_lt_of_le hWg (Nat.le_trans HB2.out.size hY.size)) ((HG.out.below (HB2.out.trans (hY.mono HB2.out.size))).wide (Nat.le_trans HB2.out.size hY.size)) hn) HT.out HB2.out hn2
      clear hq2
      obtain ⟨P, hP⟩ : ∃ P, ts.any (leaves gs) = P := ⟨_, rfl⟩
      rw [hP] at C HT2
      clear hP
      go_wp2_with fail
      refine C.mono ?_
      rintro e w3 ⟨rfl, hb⟩
      have HB3 := Lib.hid (HB2.out.trans (hb.mono HB2.out.size))
      clear C hb x0 x1 z0
      go_wp2_with fail
      refine bodyPost_ret (results_tmp2 rfl _ _ _) rfl ?_
      exact ⟨by rw [HT2.out.1, HT2.out.2]; simp, HB0.out.trans (HB3.out.mono HB0.out.size)⟩
end Go.Proofs.Ytlpgldejmdiceaa.syn
