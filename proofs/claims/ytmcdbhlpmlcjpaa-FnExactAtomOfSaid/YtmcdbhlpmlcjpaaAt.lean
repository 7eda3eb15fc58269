/- An atom: spec.l3Atom, spec.l3Ion. -/
import Derived.Test.YtmcdbhlpmlcjpaaSz
namespace Go.Proofs.Ytmcdbhlpmlcjpaa.atm
open kit bg sg opn strs only hb sig isig un over gn nm inn ht gd im pt marks eqs hc hi hw hn rs br bm bw cf lf ib lawb lw cl pl mb wb nw cz ix su asc so sx sy sz
open Go.RowKit
set_option linter.unusedVariables false
set_option linter.unusedSimpArgs false
/-- a node under a root, with sites -/
noncomputable def atB (z : Int) (ss : List ByteArray) (st : List Int) : Big := ⟨1, [⟨z, -1, idxL (sortU ss) ss⟩], st, 0, sortU ss, []⟩
theorem at_big {w : World} {lo hi c1 c2 c4 nl cl n2 n4 : Nat} {A1 A2 A4 AL : Option Addr} {z : Int} {ss : List ByteArray} {st : List Int}
    (h1 : RowR w lo hi 86 3 A1 1 c1 (fun x => if x % 3 = 0 then .int .i64 z else if x % 3 = 1 then .int .i64 (-1) else .slice AL nl cl)) (hL : RowR w lo hi 3 1 AL nl cl (iat (idxL (sortU ss) ss)))
    (h2 : RowR w lo hi 3 1 A2 n2 c2 (iat st)) (h4 : RowR w lo hi 9 1 A4 n4 c4 (at_ (sortU ss))) (hn2 : st.length = n2) (hn4 : (sortU ss).length = n4) (hnl : ss.length = nl) (hne : AL ≠ none → AL ≠ A2) :
    BigR w lo hi (.agg #[.int .i64 1, .slice A1 1 c1, .slice A2 n2 c2, .int .i64 0, .slice A4 n4 c4, .slice none 0 0]) (atB z ss st) := by
  subst hn2 hn4
  have e0 : linksOf [(⟨z, -1, idxL (sortU ss) ss⟩ : Nd)] 0 = idxL (sortU ss) ss := rfl
  have e1 : lnOf [(⟨z, -1, idxL (sortU ss) ss⟩ : Nd)] 0 = nl := by unfold lnOf; rw [e0, idx_len, hnl]
  refine ⟨⟨A1, c1, A2, c2, A4, c4, none, 0, fun _ => AL, fun _ => cl⟩, rfl, fun k hk hk2 => ⟨hne hk2, fun j hj hjk => ?_⟩, ⟨h1.congr (fun x hx => ?_), fun k hk => ?_⟩, h2, h4, RowR.nil⟩
  · have hk1 : k < 1 := hk
    have hj1 : j < 1 := hj
    omega
  · have hx3 : x < 3 := hx
    have e : x / 3 = 0 := by omega
    unfold ndc
    rw [e]
    dsimp only [atB]
    rw [e1]
    rfl
  · have hk1 : k < 1 := hk
    obtain rfl : k = 0 := by omega
    show RowR w lo hi 3 1 AL (lnOf [(⟨z, -1, idxL (sortU ss) ss⟩ : Nd)] 0) cl (iat (linksOf [(⟨z, -1, idxL (sortU ss) ss⟩ : Nd)] 0))
    rw [e1, e0]
    exact hL
/-- the row of a single node -/
theorem node_row (w : World) (a b c : Value) : RowR (w.alloc (.cells #[a, b, c] 86)) w.heap.size (w.alloc (.cells #[a, b, c] 86)).heap.size 86 3 (some ⟨w.heap.size, 0, none⟩) 1 1 (fun x => if x % 3 = 0 then a else if x % 3 = 1 then b else c) :=
  RowR.mk (Nat.le_refl _) (by simp) (Nat.le_refl _) (row_new w #[a, b, c] 86 (1 * 3) rfl) (fun x hx => by
    match x, hx with
    | 0, _ => rfl
    | 1, _ => rfl
    | 2, _ => rfl)
set_option maxRecDepth 20000 in
set_option maxHeartbeats 6400000 in
theorem sat_any (z : Int) (A : Option Addr) (n c : Nat) (ss : List ByteArray) (w : World) (h : SR w w.heap.size A n (ss.map Value.string)) (hn : n ≤ 1000000) :
    Calls Try.prog 65 #[.int .i64 z, .slice A n c] w fun e w' => ∃ v, e = .returned v ∧ BigR w' w.heap.size w'.heap.size v (atB z ss []) ∧ Below w.heap.size w w' := by
  obtain ⟨i1, hi', hy0, hy1, hy2⟩ := info_parts int_info
  have HJ := Lib.hid (And.intro hi' (And.intro hy0 (And.intro hy1 hy2)))
  have hb0 := (Below.refl w.heap.size w).alloc (Nat.le_refl _) (.cells #[.int .i64 0, .slice none 0 0, .slice none 0 0, .int .i64 0, .slice none 0 0, .slice none 0 0] 28)
  have HBx0 : Hid (BoxAt (w.alloc (.cells #[.int .i64 0, .slice none 0 0, .slice none 0 0, .int .i64 0, .slice none 0 0, .slice none 0 0] 28)) w.heap.size 28 (.int .i64 0) (.slice none 0 0) (.slice none 0 0) (.int .i64 0) (.slice none 0 0) (.slice none 0 0)) := Lib.hid (six_new w _ _ _ _ _ _ _)
  obtain ⟨W, hW⟩ : ∃ W, w.alloc (.cells #[.int .i64 0, .slice none 0 0, .slice none 0 0, .int .i64 0, .slice none 0 0, .slice none 0 0] 28) = W := ⟨_, rfl⟩
  have hWz : W.heap.size = w.heap.size + 1 := by rw [← hW]; simp
  rw [hW] at hb0 HBx0
  have HWq := Lib.hid hW
  have HB0 := Lib.hid hb0
  have HWz := Lib.hid hWz
  clear hW hb0 hWz hi' hy0 hy1 hy2
  have HL := Lib.hid h.strlen
  have HH := Lib.hid h
  have HSl := Lib.hid (sortU_len ss)
  have HIl : Hid ((idxL (sortU ss) ss).length = n) := Lib.hid (by rw [idx_len, h.strlen])
  clear h
  have CA := l2Sorted_any A n c ss W ((HH.out.below HB0.out).wide HB0.out.size) (by omega)
  go_enter Try.func65, Try.ntmps65
  go_wp2_with fail
  rw [HWq.out]
  refine CA.mono ?_
  rintro e w1 ⟨A4, c4, rfl, hr4, hb1⟩
  clear CA
  have HB1 := Lib.hid (HB0.out.trans (hb1.mono HB0.out.size))
  have HBx1 := Lib.hid (HBx0.out.on hb1)
  have HR4 := Lib.hid (hr4.wide (lo' := w.heap.size) HB0.out.size (Nat.le_refl _))
  have hw1 : w.heap.size < w1.heap.size := by have := HWz.out; have := hb1.size; omega
  clear hr4 hb1
  obtain ⟨sl, hsl'⟩ : ∃ sl, (sortU ss).length = sl := ⟨_, rfl⟩
  have HSq := Lib.hid hsl'
  have hsl : sl ≤ 1048576 := by have := HSl.out; have := HL.out; omega
  rw [hsl']
  clear hsl'
  have HSL : Hid (∀ Y, Below w1.heap.size w1 Y → SR Y w1.heap.size A4 sl ((sortU ss).map Value.string)) := Lib.hid (fun Y hY => by have := strsR_at HR4.out; rw [HSq.out] at this; exact this.below hY)
  go_wp2_with fail
  go_loopw [6, 7] (fun v i wr => ∃ k : Nat, k ≤ n ∧ i = .int .i64 k ∧ wr.ownsRow w1.heap.size 3 1 v k (((idxL (sortU ss) ss).take k).map (Value.int .i64)) ∧ Below w1.heap.size w1 wr) (fun _ i _ => n - (intOf i).toNat)
  case atStart => exact ⟨0, Nat.zero_le _, rfl, ownsRow_nil_new w1 3 1 w1.heap.size (Nat.le_refl _), (Below.refl _ _).alloc (Nat.le_refl _) _⟩
  case round =>
    obtain ⟨k, hk, rfl, hown, hB⟩ := hrel
    rename World => wr
    have hsz := hB.size
    by_cases hlt : k < n
    · obtain ⟨b1, o1, x, rfl, hbb, hx, c1⟩ := HH.out.str hlt
      have d1 := ((HB1.out.trans (hB.mono HB1.out.size)).cell (p := ⟨b1, o1 + k, none⟩) hbb).trans c1
      have CT := l2At_any A4 sl c4 (sortU ss) x wr _ (HSL.out wr hB) hsl
      have hTk := idx_at (ls := sortU ss) hx
      obtain ⟨y, hy⟩ : ∃ y, ixF (sortU ss) x = y := ⟨_, rfl⟩
      rw [hy] at hTk CT
      have HTk : Hid (((idxL (sortU ss) ss).take (k + 1)).map (Value.int .i64) = ((idxL (sortU ss) ss).take k).map (Value.int .i64) ++ [.int .i64 y]) := Lib.hid (by rw [take_snoc hTk, List.map_append]; rfl)
      obtain ⟨D, hD⟩ : ∃ D, ((idxL (sortU ss) ss).take k).map (Value.int .i64) = D := ⟨_, rfl⟩
      rw [hD] at hown HTk
      have HO := Lib.hid hown
      have HB' := Lib.hid hB
      clear hTk hD hown hB hx c1 hy
      go_wp2_with fail
      refine CT.mono ?_
      rintro e w2 ⟨rfl, rfl⟩
      clear CT
      go_wp2_with (at_builtin; refine wpList_append_own _ rfl _ _ 25 rfl w1.heap.size 3 i1 (.int .i64 0) 1 8 Try.underlying25 HJ.out.1 HJ.out.2.1 HJ.out.2.2.1 HJ.out.2.2.2 rfl (by decide) _ _ _ rfl (HO.out.alloc _) ⟨wr.heap.size, 0, none⟩ 1 1 [.int .i64 y] rfl rfl (cell_one_new _ _ _) (fun u hu => by rw [List.mem_singleton.1 hu]; rfl) (by unfold maxLen; omega) (by omega) (by simp; omega) ?_; intro v1 w3 hown1 hgrow1 hnil1; have HB3 := Lib.hid ((HB'.out.alloc (by omega) (.cells #[.int .i64 y] 3)).grown hgrow1 (by simp; omega) (fun r e => ((HO.out.alloc (.cells #[.int .i64 y] 3)).lt r e).1)); have HO3 := Lib.hid hown1; clear hgrow1 hnil1 hown1)
      go_roundw
      case rel => exact ⟨k + 1, by omega, by go_num, by rw [HTk.out]; exact HO3.out, HB3.out⟩
      case measure => simp [intOf]; omega
    · obtain rfl : k = n := by omega
      rw [List.take_of_length_le (by rw [HIl.out]; exact Nat.le_refl _)] at hown
      obtain ⟨AL, cl, rfl, hrl⟩ := ints_owned hown
      rw [HIl.out] at hrl ⊢
      have HRL := Lib.hid hrl
      have HBw := Lib.hid (HB1.out.trans (hB.mono HB1.out.size))
      have HR4w := Lib.hid (HR4.out.on hB)
      have HBxw := Lib.hid (HBx1.out.on hB)
      have hbN := (Below.refl wr.heap.size wr).alloc (Nat.le_refl _) (.cells #[.int .i64 z, .int .i64 (-1), .slice AL k cl] 86)
      have HBN := Lib.hid (HBw.out.trans (hbN.mono HBw.out.size))
      have HBxN := Lib.hid (HBxw.out.on hbN)
      have hbg0 := (at_big (c2 := 0) (A2 := none) (st := []) ((node_row wr (.int .i64 z) (.int .i64 (-1)) (.slice AL k cl)).wide (lo' := w.heap.size) (by omega) (Nat.le_refl _)) ((rowR_here (HRL.out.on hbN)).wide (lo' := w.heap.size) (by omega) (Nat.le_refl _)) RowR.nil (rowR_here (HR4w.out.on hbN)) rfl rfl HL.out (fun h => h))
      rw [HSq.out] at hbg0
      have HBig := Lib.hid hbg0
      clear hbg0 hown hrl hB hbN
      obtain ⟨z0, z1, z2, z3, z4, z5⟩ := HBxN.out.get
      have f0 := World.rowIs.frozen HBxN.out 0
      have f1 := World.rowIs.frozen HBxN.out 1
      have f2 := World.rowIs.frozen HBxN.out 2
      have f3 := World.rowIs.frozen HBxN.out 3
      have f4 := World.rowIs.frozen HBxN.out 4
      have f5 := World.rowIs.frozen HBxN.out 5
      go_wp2_with fail
      have hbig := (sets6_big HBxN.out HBig.out (.int .i64 1) (.slice (some ⟨wr.heap.size, 0, none⟩) 1 1) (.slice none 0 0) (.int .i64 0) (.slice A4 sl c4) (.slice none 0 0)).here
      have hbel := sets6_below HBN.out (Nat.le_refl w.heap.size) (.int .i64 1) (.slice (some ⟨wr.heap.size, 0, none⟩) 1 1) (.slice none 0 0) (.int .i64 0) (.slice A4 sl c4) (.slice none 0 0)
      unfold sets6 at hbig hbel
      refine bodyPost_ret (v := .agg #[.int .i64 1, .slice (some ⟨wr.heap.size, 0, none⟩) 1 1, .slice none 0 0, .int .i64 0, .slice A4 sl c4, .slice none 0 0]) (by simp [results, Try.results65, go_sem, z0, z1, z2, z3, z4, z5]) rfl ⟨_, rfl, hbig, hbel⟩
/-- the Control with a number -/
def ctlAt (cs : List Ctl) (z : Int) : Ctl := (cs[z.toNat]?).getD ⟨⟨#[]⟩, 0, 0⟩
theorem ctlAt_of {cs : List Ctl} {k : Nat} {x : Ctl} (h : cs[k]? = some x) : ctlAt cs (k : Int) = x := by unfold ctlAt; rw [Int.toNat_natCast, h]; rfl
open Classical in
/-- there is a node with a Control and names for its ports -/
noncomputable def atQ (cs : List Ctl) (z : Int) (ss : List ByteArray) : Bool := sigB cs && inb z 0 ((cs.length : Int) - 1) && ((ss.length : Int) == (ctlAt cs z).ports) && allB ss
theorem at_no1 {cs : List Ctl} {z : Int} {ss : List ByteArray} (h : sigB cs = false) : atQ cs z ss = false := by unfold atQ; rw [h]; rfl
theorem at_no2 {cs : List Ctl} {z : Int} {ss : List ByteArray} (h : inb z 0 ((cs.length : Int) - 1) = false) : atQ cs z ss = false := by unfold atQ; rw [h, Bool.and_false]; rfl
theorem at_no3 {cs : List Ctl} {z : Int} {ss : List ByteArray} (h : ((ss.length : Int) == (ctlAt cs z).ports) = false) : atQ cs z ss = false := by unfold atQ; rw [h, Bool.and_false]; rfl
theorem at_no4 {cs : List Ctl} {z : Int} {ss : List ByteArray} (h : allB ss = false) : atQ cs z ss = false := by unfold atQ; rw [h, Bool.and_false]
theorem at_yes {cs : List Ctl} {z : Int} {ss : List ByteArray} (h1 : sigB cs = true) (h2 : inb z 0 ((cs.length : Int) - 1) = true) (h3 : ((ss.length : Int) == (ctlAt cs z).ports) = true) (h4 : allB ss = true) : atQ cs z ss = true := by unfold atQ; rw [h1, h2, h3, h4]; rfl
set_option maxRecDepth 20000 in
set_option maxHeartbeats 3200000 in
theorem l3Ion_any (A : Option Addr) (n c : Nat) (cs : List Ctl) (z : Int) (A' : Option Addr) (m c' : Nat) (ss : List ByteArray) (w : World) (hC : CtlsAt w w.heap.size A n cs) (hn : n ≤ 1048576) (hcs : ∀ c ∈ cs, c.name.size ≤ 1048576) (h : SR w w.heap.size A' m (ss.map Value.string)) (hm : m ≤ 1048576) (hs : ∀ s ∈ ss, s.size ≤ 1048576) :
    Calls Try.prog 64 #[.slice A n c, .int .i64 z, .slice A' m c'] w (Post (atQ cs z ss) w) := by
  have HL := Lib.hid h.strlen
  have HCl := Lib.hid hC.1
  have HC := Lib.hid hC
  have HH := Lib.hid h
  have HS : Hid (∀ s ∈ ss, s.size ≤ maxLen) := Lib.hid (fun s hs' => Nat.le_trans (hs s hs') (by unfold maxLen; omega))
  have C1 := l2Sig_any A n c cs w _ hC hn hcs
  clear hC hcs h hs
  cases h1 : sigB cs with
  | false =>
    rw [h1] at C1
    rw [at_no1 h1]
    clear h1
    go_enter Try.func64, Try.ntmps64
    go_wp2_with fail
    refine C1.mono ?_
    rintro e w1 ⟨rfl, hb⟩
    clear C1
    go_wp2_with fail
    go_ret
    exact ⟨rfl, hb⟩
  | true =>
    rw [h1] at C1
    have hn1 := inb_true (sig_of h1).2.2
    rw [HCl.out] at hn1
    have hwr : IntKind.i64.wrap ((n : Int) - 1) = (n : Int) - 1 := IntWalk.i64_in _ (by omega)
    have H1 := Lib.hid h1
    clear h1
    have C2 := fun W => in_any z 0 ((n : Int) - 1) W
    cases h2 : inb z 0 ((n : Int) - 1) with
    | false =>
      rw [at_no2 (by rw [HCl.out]; exact h2)]
      rw [h2] at C2
      have HC2 := Lib.hid C2
      clear h2 C2
      go_enter Try.func64, Try.ntmps64
      go_wp2_with fail
      refine C1.mono ?_
      rintro e w1 ⟨rfl, hb⟩
      clear C1
      go_wp2_with fail
      refine (HC2.out w1).mono ?_
      rintro e w2 ⟨rfl, rfl⟩
      go_wp2_with fail
      go_ret
      exact ⟨rfl, hb⟩
    | true =>
      have hz := inb_true h2
      have H2 : Hid (inb z 0 ((cs.length : Int) - 1) = true) := Lib.hid (by rw [HCl.out]; exact h2)
      rw [h2] at C2
      have HC2 := Lib.hid C2
      clear h2 C2
      obtain ⟨k, rfl⟩ : ∃ k : Nat, z = (k : Int) := ⟨z.toNat, by omega⟩
      have hkn : k < n := by omega
      obtain ⟨b, off, x, rfl, hbb, hx, q0, q1, q2⟩ := HC.out.get hkn
      have HX := Lib.hid (ctlAt_of hx)
      have HQ1 := Lib.hid (fun (Y : World) (hY : Below w.heap.size w Y) => (hY.cell (p := ⟨b, off + k * 3 + 1, none⟩) hbb).trans q1)
      clear hx q0 q1 q2 hz
      cases h3 : ((m : Int) == x.ports) with
      | false =>
        rw [at_no3 (by rw [HL.out, HX.out]; exact h3)]
        go_enter Try.func64, Try.ntmps64
        go_wp2_with fail
        refine C1.mono ?_
        rintro e w1 ⟨rfl, hb⟩
        clear C1
        have hq := HQ1.out w1 hb
        go_wp2_with fail
        refine (HC2.out w1).mono ?_
        rintro e w2 ⟨rfl, rfl⟩
        go_wp2_with fail
        go_ret
        exact ⟨rfl, hb⟩
      | true =>
        have H3 : Hid (((ss.length : Int) == (ctlAt cs (k : Int)).ports) = true) := Lib.hid (by rw [HL.out, HX.out]; exact h3)
        have C4 := fun W (hW : Below w.heap.size w W) => l3All_any A' m c' ss W _ (HH.out.below hW) hm HS.out
        cases h4 : allB ss with
        | false =>
          rw [at_no4 h4]
          rw [h4] at C4
          have HC4 := Lib.hid C4
          clear h4 C4
          go_enter Try.func64, Try.ntmps64
          go_wp2_with fail
          refine C1.mono ?_
          rintro e w1 ⟨rfl, hb⟩
          clear C1
          have hq := HQ1.out w1 hb
          go_wp2_with fail
          refine (HC2.out w1).mono ?_
          rintro e w2 ⟨rfl, rfl⟩
          go_wp2_with fail
          refine (HC4.out w1 hb).mono ?_
          rintro e w2 ⟨rfl, rfl⟩
          go_wp2_with fail
          go_ret
          exact ⟨rfl, hb⟩
        | true =>
          rw [at_yes H1.out H2.out H3.out h4]
          rw [h4] at C4
          have HC4 := Lib.hid C4
          clear h4 C4
          go_enter Try.func64, Try.ntmps64
          go_wp2_with fail
          refine C1.mono ?_
          rintro e w1 ⟨rfl, hb⟩
          clear C1
          have hq := HQ1.out w1 hb
          go_wp2_with fail
          refine (HC2.out w1).mono ?_
          rintro e w2 ⟨rfl, rfl⟩
          go_wp2_with fail
          refine (HC4.out w1 hb).mono ?_
          rintro e w2 ⟨rfl, rfl⟩
          go_wp2_with fail
          go_ret
          exact ⟨rfl, hb⟩
end Go.Proofs.Ytmcdbhlpmlcjpaa.atm
