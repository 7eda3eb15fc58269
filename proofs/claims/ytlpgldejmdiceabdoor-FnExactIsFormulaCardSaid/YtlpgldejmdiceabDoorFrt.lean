/- impl.readTree. -/
import Derived.Test.YtlpgldejmdiceabDoorFhd
import Derived.Deep.CutRange
import Derived.Deep.RegionHeld3
namespace Go.Proofs.YtlpgldejmdiceabDoor.frt
open kit bg opn strs only hb sg sig isig un over hi fox foh fhd
open Go.RowKit
set_option linter.unusedVariables false
set_option linter.unusedSimpArgs false
/-- the value of a tree, whatever it holds -/
def TreeV (v : Value) : Prop := ∃ A1 m1 k1 s p A4 m4 k4, v = .agg #[.slice A1 m1 k1, .string s, .int .i64 p, .slice A4 m4 k4]
def ReadP (o : Option (List Int)) (B : Nat) (w : World) (e : Ending) (w' : World) : Prop :=
  Below w.heap.size w w' ∧ ∃ tv, TreeV tv ∧ match o with
    | none => e = .returned (.tuple #[tv, .slice none 0 0, .bool false])
    | some r => ∃ A c, e = .returned (.tuple #[tv, .slice A r.length c, .bool true]) ∧ IntsAt w' B A r.length r ∧ r.length ≤ c ∧ c ≤ 1048576
def ReadN (n : Nat) : Prop := ∀ (g c : Nat) (Af : Option Addr) (nf cf : Nat) (f : List Int) (B : Nat) (w : World), HdsAt w w.heap.size g → IntsAt w B Af nf f → B ≤ w.heap.size → nf ≤ cf → cf ≤ 1048576 → f.length < n →
    Calls Tryd.prog 87 #[.slice (some ⟨g, 0, none⟩) 19 c, .slice Af nf cf] w (ReadP (rdF n f) B w)
theorem tree_info : (Tryd.prog.info? 58).map (fun i => (i.zero, i.size, i.bytes)) = some (some (.agg #[.slice none 0 0, .string ⟨#[]⟩, .int .i64 0, .slice none 0 0]), 4, 72) := by kernel_rfl
theorem cells_new (w : World) (c : Array Value) (t : TypeId) : ∀ (j : Nat) u, c.toList[j]? = some u → (w.alloc (.cells c t)).cell? ((⟨w.heap.size, 0, none⟩ : Addr).add j) = some u := fun j u hu => by
  have h : (w.alloc (.cells c t)).cell? ⟨w.heap.size, j, none⟩ = some u := (BoxF.new w c t).cell hu
  have e : (⟨w.heap.size, 0, none⟩ : Addr).add j = ⟨w.heap.size, j, none⟩ := by
    by_cases hj : j = 0
    · subst hj; rfl
    · simp [Addr.add, hj]
  rw [e]
  exact h
section
variable {w w' : World} {base : Nat} {e : TypeId} {size : Nat} {v : Value} {n : Nat} {xs : List Value}
theorem own_lt (h : w.ownsRow base e size v n xs) : ∀ k, v.ownBlock = some k → base ≤ k ∧ k < w.heap.size := by
  intro k hk
  rcases h.2 with ⟨rfl, _⟩ | ⟨g, cap, cur, rfl, hb, hg, _⟩
  · cases hk
  · injection hk with hk
    subst hk
    exact ⟨hb, (Array.getElem?_eq_some_iff.1 hg).1⟩
theorem own_on (h : w.ownsRow base e size v n xs) (hb : Below w.heap.size w w') : w'.ownsRow base e size v n xs := by
  refine ⟨h.1, ?_⟩
  rcases h.2 with hn | ⟨g, cap, cur, rfl, hb', hg, r⟩
  · exact .inl hn
  · exact .inr ⟨g, cap, cur, rfl, hb', (hb.block g (Array.getElem?_eq_some_iff.1 hg).1).trans hg, r⟩
theorem own_slice (h : w.ownsRow base e size v n xs) : ∃ A m k, v = .slice A m k := by
  rcases h.2 with ⟨rfl, _⟩ | ⟨g, cap, cur, rfl, _⟩
  · exact ⟨_, _, _, rfl⟩
  · exact ⟨_, _, _, rfl⟩
theorem own_set (h : w.ownsRow base e size v n xs) {p : Addr} (hp : p.block < base) (u : Value) : (w.setCell p u).ownsRow base e size v n xs := by
  refine ⟨h.1, ?_⟩
  rcases h.2 with hn | ⟨g, cap, cur, rfl, hb', hg, r⟩
  · exact .inl hn
  · exact .inr ⟨g, cap, cur, rfl, hb', (heap_setCell_other w p g u (by omega)).trans hg, r⟩
theorem box_grown {w w' : World} {β : Nat} {t : TypeId} {l : List Value} {row : Option Nat} (h : BoxF w β t l) (hg : w.grownBy w' row) (hn : ∀ k, row = some k → β < k) : BoxF w' β t l :=
  World.rowIs.of_block h (hg.block β h.lt (fun e => by have := hn β e.symm; omega))
end
theorem read_zero : ReadN 0 := fun _ _ _ _ _ _ _ _ _ _ _ _ _ h => absurd h (Nat.not_lt_zero _)
theorem drop_ints {w : World} {B n k b off : Nat} {f : List Int} (h : IntsAt w B (some ⟨b, off, none⟩) n f) (hb : b < B) (hk : k ≤ n) : IntsAt w B (some ⟨b, off + k, none⟩) (n - k) (f.drop k) := by
  have hl := h.len
  refine ⟨by simp; omega, fun h0 => ⟨b, off + k, rfl, hb, fun i u hi => ?_⟩⟩
  obtain ⟨b', off', e, _, hc⟩ := h.2 (by omega)
  injection e with e
  injection e with e1 e2
  subst e1 e2
  rw [List.getElem?_map, List.getElem?_drop] at hi
  have := hc (k + i) u (by rw [List.getElem?_map]; exact hi)
  rw [Nat.add_assoc]
  exact this
theorem rep_next {n k : Nat} {l : List Int} : repF n (k + 1) l = match rdF n l with | none => none | some r => repF n k r := rfl
def GotT (W : World) (v1 : Value) (s : ByteArray) (p : Int) (s9' : Value) (s8 s9 : Value) (wx : World) : Prop :=
  ∃ β, s8 = .pointer (some ⟨β, 0, none⟩) ∧ s9 = s9' ∧ W.heap.size ≤ β ∧ BoxF wx β 58 [v1, .string s, .int .i64 p, .slice none 0 0] ∧ Below W.heap.size W wx
theorem gotT_late {W X : World} (v1 : Value) (s : ByteArray) (p : Int) (s9 : Value) (hk : Below W.heap.size W X) : GotT W v1 s p s9 (.pointer (some ⟨X.heap.size, 0, none⟩)) s9 (X.alloc (.cells #[v1, .string s, .int .i64 p, .slice none 0 0] 58)) :=
  ⟨X.heap.size, rfl, rfl, hk.size, BoxF.new X _ _, hk.alloc hk.size _⟩
theorem gotT_early {W X : World} {β : Nat} {l : List Value} (v1 : Value) (s : ByteArray) (p : Int) (s9 : Value) (hk : Below W.heap.size W X) (hβ : W.heap.size ≤ β) (h : BoxF X β 58 l) (hl : l.length = 4) : GotT W v1 s p s9 (.pointer (some ⟨β, 0, none⟩)) s9 ((((X.setCell ⟨β, 0, none⟩ v1).setCell ⟨β, 1, none⟩ (.string s)).setCell ⟨β, 2, none⟩ (.int .i64 p)).setCell ⟨β, 3, none⟩ (.slice none 0 0)) := by
  refine ⟨β, rfl, rfl, hβ, ?_, (((hk.setCell (p := ⟨β, 0, none⟩) hβ _).setCell (p := ⟨β, 1, none⟩) hβ _).setCell (p := ⟨β, 2, none⟩) hβ _).setCell (p := ⟨β, 3, none⟩) hβ _⟩
  match l, hl with
  | [a, b, c, d], _ => exact (((h.set 0 v1).set 1 (.string s)).set 2 (.int .i64 p)).set 3 (.slice none 0 0)
set_option maxRecDepth 20000 in
set_option maxHeartbeats 12800000 in
theorem read_step {n : Nat} (ih : ReadN n) : ReadN (n + 1) := by
  intro g c Af nf cf f B w hH hF hBw hc hcf hlen
  have HIh := Lib.hid ih
  obtain ⟨i0, hi, hz0, hz1, hz2⟩ := info_parts tree_info
  have HI := Lib.hid (And.intro hi (And.intro hz0 (And.intro hz1 hz2)))
  clear hi hz0 hz1 hz2
  have hfl := hF.len
  have hb1 := (Below.refl w.heap.size w).alloc (Nat.le_refl _) (.cells #[.slice Af nf cf] 22)
  have hBf := BoxF.new w #[.slice Af nf cf] 22
  obtain ⟨X, hX⟩ : ∃ X, w.alloc (.cells #[.slice Af nf cf] 22) = X := ⟨_, rfl⟩
  have hXz : X.heap.size = w.heap.size + 1 := by rw [← hX]; simp
  rw [hX] at hb1 hBf
  have hb2 := (Below.refl X.heap.size X).alloc (Nat.le_refl _) (.cells #[.slice none 0 0, .string ⟨#[]⟩, .int .i64 0, .slice none 0 0] 58)
  have hBt := BoxF.new X #[.slice none 0 0, .string ⟨#[]⟩, .int .i64 0, .slice none 0 0] 58
  obtain ⟨W, hW⟩ : ∃ W, X.alloc (.cells #[.slice none 0 0, .string ⟨#[]⟩, .int .i64 0, .slice none 0 0] 58) = W := ⟨_, rfl⟩
  have hWz : W.heap.size = w.heap.size + 2 := by rw [← hW]; simp [hXz]
  rw [hW] at hb2 hBt
  rw [hXz] at hBt
  have HQ := Lib.hid (And.intro hX hW)
  have HB := Lib.hid (hb1.trans (hb2.mono hb1.size))
  have HBf := Lib.hid (hBf.on hb2)
  have HBt := Lib.hid hBt
  have HWz := Lib.hid hWz
  have HH := Lib.hid ((hH.below HB.out).wide HB.out.size)
  have HF := Lib.hid (hF.below (HB.out.mono hBw))
  have hBW : B ≤ W.heap.size := by omega
  have HFl := Lib.hid hfl
  have HLen := Lib.hid hlen
  have CI := idxH_any 122 #[.pointer (some ⟨w.heap.size, 0, none⟩)] (fun k => preB (hdN k) f) (fun _ _ => by rfl) g 19 c rfl W (fun k gk s Y hk hY hgk hI => rt1_any w.heap.size Af nf cf f k gk s Y ((HBf.out.on hY).cell (i := 0) rfl) (HBf.out.on hY).lt ((HF.out.below (hY.mono hBW)).wide (Nat.le_trans hBW hY.size)) hc hcf hk hgk hI) HH.out
  have z0 := HBf.out.cell (i := 0) rfl
  clear hb1 hBf hX hb2 hBt hW hH hF hfl hlen hXz hWz
  go_enter Tryd.func87, Tryd.ntmps87
  go_wp2_with fail
  rw [HQ.out.1, HQ.out.2]
  try go_wp2_with fail
  refine CI.mono ?_
  rintro e w1 hfound
  clear CI
  rcases hfound with ⟨k, hk19, rfl, hp, hb⟩ | ⟨rfl, hno, hb⟩
  · have hp : preB (hdN k) f = true := hp
    have hr := rd_head (n := n) hk19 hp
    have HR := Lib.hid hr
    have HB1 := Lib.hid (HB.out.trans (hb.mono HB.out.size))
    have HBW1 := Lib.hid hb
    have HBw := Lib.hid hb.size
    have HBt1 := Lib.hid (HBt.out.on hb)
    have HBf1 := Lib.hid (HBf.out.on hb)
    have HH1 := Lib.hid ((HH.out.below hb).wide hb.size)
    have HF1 := Lib.hid (HF.out.below (hb.mono hBW))
    obtain ⟨gk, s, q1, q2, q3, q4, q5⟩ := HH1.out.2 k hk19
    have hml := hd_len k
    have hmn : (hdN k).length ≤ nf := by
      rw [← HFl.out]
      rcases Nat.lt_or_ge f.length (hdN k).length with h | h
      · rw [pre_long h] at hp; cases hp
      · exact h
    obtain ⟨m, hm⟩ : ∃ m, (hdN k).length = m := ⟨_, rfl⟩
    obtain ⟨pp, hpp⟩ : ∃ p : Nat, hdP k = p := ⟨_, rfl⟩
    have hpl := hd_parts k
    rw [hm] at q2 hml hmn HR
    rw [hpp] at q4 hpl HR
    have hf1 := HF1.out
    obtain ⟨fb, fo, rfl, hfb, -⟩ := hf1.2 (by omega)
    have HG1 := Lib.hid HH1.out.1
    have z1 := HBf1.out.cell (i := 0) rfl
    have HSt := Lib.hid (fun (Y : World) (hY : Below w1.heap.size w1 Y) => And.intro ((HBf1.out.on hY).cell (i := 0) rfl) (And.intro ((hY.cell (p := ⟨g, k * 3, none⟩) HG1.out).trans q2) (And.intro ((hY.cell (p := ⟨g, k * 3 + 1, none⟩) HG1.out).trans q3) ((hY.cell (p := ⟨g, k * 3 + 2, none⟩) HG1.out).trans q4))))
    have hk0 : (0 : Int) ≤ (k : Int) := by omega
    have hk1 : (k : Int) < 19 := by omega
    have hm0 : (0 : Int) ≤ (m : Int) := by omega
    have hm1 : (m : Int) ≤ (nf : Int) := by omega
    have hm2 : (m : Int) ≤ (cf : Int) := by omega
    have hncf : (nf : Int) ≤ (cf : Int) := by omega
    clear hr hb hp q5 hf1 z0
    have hAr : IntsAt w1 B (if cf = m then some ⟨fb, fo, none⟩ else some ⟨fb, fo + m, none⟩) (nf - m) (f.drop m) := by
      by_cases hcm : cf = m
      · have : nf - m = 0 := by omega
        rw [this]
        refine ⟨by simp; have := HFl.out; omega, fun h => absurd h (Nat.lt_irrefl _)⟩
      · rw [if_neg hcm]
        exact drop_ints HF1.out hfb hmn
    obtain ⟨Ar, hAe⟩ : ∃ Ar, (if cf = m then some ⟨fb, fo, none⟩ else some ⟨fb, fo + m, none⟩ : Option Addr) = Ar := ⟨_, rfl⟩
    rw [hAe] at hAr
    have HAr := Lib.hid hAr
    have HAe := Lib.hid hAe
    clear hAr hAe
    go_wp2_with fail
    have hkD := (Below.refl w1.heap.size w1).drew
    go_region_held3 (fun w' => w'.cell? ⟨w.heap.size, 0, none⟩ = some (.slice (some ⟨fb, fo, none⟩) nf cf) ∧ w'.cell? ⟨g, k * 3, none⟩ = some (.slice (some ⟨gk, 0, none⟩) m m) ∧ w'.cell? ⟨g, k * 3 + 1, none⟩ = some (.string s) ∧ w'.cell? ⟨g, k * 3 + 2, none⟩ = some (.int .i64 (pp : Nat))) (first
        | with_reducible exact HSt.out _ hkD
        | with_reducible exact HSt.out _ ((Below.refl w1.heap.size w1).alloc (Nat.le_refl _) _).drew
        | with_reducible exact HSt.out _ (hkD.alloc hkD.size _))
        (fail)
    have hb2 := ((Below.refl w1.heap.size w1).alloc (Nat.le_refl _) (.cells #[.slice (some ⟨gk, 0, none⟩) m m, .string s, .int .i64 (pp : Nat), .slice none 0 0] 58)).drew
    have hbx2 : BoxF (w1.alloc (.cells #[.slice (some ⟨gk, 0, none⟩) m m, .string s, .int .i64 (pp : Nat), .slice none 0 0] 58)).drew w1.heap.size 58 [.slice (some ⟨gk, 0, none⟩) m m, .string s, .int .i64 (pp : Nat), .slice none 0 0] := World.rowIs.drew (BoxF.new w1 _ _)
    obtain ⟨w2, hw2⟩ : ∃ w2, (w1.alloc (.cells #[.slice (some ⟨gk, 0, none⟩) m m, .string s, .int .i64 (pp : Nat), .slice none 0 0] 58)).drew = w2 := ⟨_, rfl⟩
    have hz2 : w2.heap.size = w1.heap.size + 1 := by rw [← hw2]; simp [World.drew]
    rw [hw2] at hb2 hbx2 ⊢
    have hWw1 : W.heap.size ≤ w1.heap.size := by have := HBw.out; exact this
    have HB2 := Lib.hid (HBW1.out.trans (hb2.mono hWw1))
    have HBx2 := Lib.hid hbx2
    have HAr2 := Lib.hid (HAr.out.below (hb2.mono (Nat.le_trans hBW hWw1)))
    have HZ2 := Lib.hid hz2
    have y2 := hbx2.cell (i := 2) rfl
    clear hw2 hb2 hbx2 hz2 hkD z1 q2 q3 q4
    rw [HAe.out]
    have hnl : nf - m = (f.drop m).length := by rw [List.length_drop]; have := HFl.out; omega
    obtain ⟨l0, hl0⟩ : ∃ l, f.drop m = l := ⟨_, rfl⟩
    rw [hl0] at HAr2 HR hnl
    have hln : l0.length < n := by have := HLen.out; have := HFl.out; omega
    have hlc : l0.length ≤ cf - m := by omega
    rw [hnl] at HAr2 ⊢
    go_wp2_with fail
    clear y2
    go_loopw [9, 10, 11, 12, 35] (fun v _ _ _ i wr => ∃ (j : Nat) (r : List Int) (A' : Option Addr) (c' : Nat) (pv : Value) (ys : List Value), i = .int .i64 j ∧ j ≤ pp ∧ v = .slice A' r.length c' ∧ r.length ≤ c' ∧ c' ≤ 1048576 ∧ r.length < n ∧ IntsAt wr B A' r.length r ∧ repF n pp l0 = repF n (pp - j) r ∧ BoxF wr w1.heap.size 58 [.slice (some ⟨gk, 0, none⟩) m m, .string s, .int .i64 (pp : Nat), pv] ∧ (∃ A4 m4 k4, pv = .slice A4 m4 k4) ∧ wr.ownsRow (w1.heap.size + 1) 58 4 pv j ys ∧ Below W.heap.size W wr) (fun _ _ _ _ i _ => pp - (intOf i).toNat)
    case atStart => exact ⟨0, l0, Ar, cf - m, .slice none 0 0, [], rfl, Nat.zero_le _, rfl, hlc, by omega, hln, HAr2.out, by rw [Nat.sub_zero], HBx2.out, ⟨_, _, _, rfl⟩, ⟨rfl, .inl ⟨rfl, rfl⟩⟩, HB2.out⟩
    case round =>
      obtain ⟨j, r, A', c', pv, ys, rfl, hj, rfl, hrc, hcc, hrn, hri, hrep, hbx, ⟨PA, pm, pk, rfl⟩, hown, hbel⟩ := hrel
      have HRi := Lib.hid hri
      have HRep := Lib.hid hrep
      have HBx := Lib.hid hbx
      have HOwn := Lib.hid hown
      have HBel := Lib.hid hbel
      have hbw := hbel.size
      have HBt2 := Lib.hid (HBt.out.below hbel (by have := HWz.out; omega))
      clear hri hrep hown hbel
      by_cases hlt : j < pp
      · have CH := HIh.out g c A' r.length c' r B wr ((HH.out.below HBel.out).wide HBel.out.size) HRi.out (Nat.le_trans hBW hbw) hrc hcc hrn
        clear hbx
        go_wp2_with fail
        refine CH.mono ?_
        rintro e w7 ⟨hb7, tv, ⟨A1, m1, k1, s1, p1, A4, m4, k4, rfl⟩, hmt⟩
        clear CH
        have HB7 := Lib.hid (HBel.out.trans (hb7.mono hbw))
        have HBx7 := Lib.hid (HBx.out.on hb7)
        have HBt7 := Lib.hid (HBt2.out.on hb7)
        have hb8 := (Below.refl w7.heap.size w7).alloc (Nat.le_refl _) (.cells #[.slice A1 m1 k1, .string s1, .int .i64 p1, .slice A4 m4 k4] 58)
        have hbp := BoxF.new w7 #[.slice A1 m1 k1, .string s1, .int .i64 p1, .slice A4 m4 k4] 58
        obtain ⟨w8, hw8⟩ : ∃ w8, w7.alloc (.cells #[.slice A1 m1 k1, .string s1, .int .i64 p1, .slice A4 m4 k4] 58) = w8 := ⟨_, rfl⟩
        have hz8 : w8.heap.size = w7.heap.size + 1 := by rw [← hw8]; simp
        rw [hw8] at hb8 hbp
        have HW8 := Lib.hid hw8
        have HB8 := Lib.hid (HB7.out.trans (hb8.mono (Nat.le_trans hbw hb7.size)))
        have HBx8 := Lib.hid (HBx7.out.on hb8)
        have HBt8 := Lib.hid (HBt7.out.on hb8)
        have HBp8 := Lib.hid hbp
        cases hrd : rdF n r with
        | none =>
          rw [hrd] at hmt
          simp only at hmt
          subst hmt
          have hnone : repF n pp l0 = none := by
            rw [HRep.out]
            obtain ⟨i, hi⟩ : ∃ i, pp - j = i + 1 := ⟨pp - j - 1, by omega⟩
            rw [hi, rep_next, hrd]
          have HNo := Lib.hid hnone
          have t0 := HBt8.out.cell (i := 0) rfl
          have t1 := HBt8.out.cell (i := 1) rfl
          have t2 := HBt8.out.cell (i := 2) rfl
          have t3 := HBt8.out.cell (i := 3) rfl
          have f0 := World.rowIs.frozen HBt8.out 0
          have f1 := World.rowIs.frozen HBt8.out 1
          have f2 := World.rowIs.frozen HBt8.out 2
          have f3 := World.rowIs.frozen HBt8.out 3
          have h4 := (((HBt8.out.set 0 (.slice none 0 0)).set 1 (.string ⟨#[]⟩)).set 2 (.int .i64 0)).set 3 (.slice none 0 0)
          have u0 := h4.cell (i := 0) rfl
          have u1 := h4.cell (i := 1) rfl
          have u2 := h4.cell (i := 2) rfl
          have u3 := h4.cell (i := 3) rfl
          have HB9 := Lib.hid (HB.out.trans (HB8.out.mono HB.out.size))
          have HB4 := Lib.hid ((((HB9.out.setCell (p := ⟨w.heap.size + 1, 0, none⟩) (by show w.heap.size ≤ w.heap.size + 1; omega) (.slice none 0 0)).setCell (p := ⟨w.heap.size + 1, 1, none⟩) (by show w.heap.size ≤ w.heap.size + 1; omega) (.string ⟨#[]⟩)).setCell (p := ⟨w.heap.size + 1, 2, none⟩) (by show w.heap.size ≤ w.heap.size + 1; omega) (.int .i64 0)).setCell (p := ⟨w.heap.size + 1, 3, none⟩) (by show w.heap.size ≤ w.heap.size + 1; omega) (.slice none 0 0))
          rw [← HW8.out] at t0 t1 t2 t3 f0 f1 f2 f3 u0 u1 u2 u3 HB4
          clear h4 hrd hnone hb7 hb8 hbp hw8 hz8
          go_wp2_with fail
          refine bodyPost_ret (v := .tuple #[.agg #[.slice none 0 0, .string ⟨#[]⟩, .int .i64 0, .slice none 0 0], .slice none 0 0, .bool false]) (by simp [results, Tryd.results87, go_sem, u0, u1, u2, u3]) rfl ?_
          exact ⟨HB4.out, _, ⟨_, _, _, _, _, _, _, _, rfl⟩, by rw [HR.out, HNo.out]⟩
        | some r' =>
          rw [hrd] at hmt
          simp only at hmt
          obtain ⟨A7, c7, rfl, hi7, hc7, hc71⟩ := hmt
          have y3 := HBx8.out.cell (i := 3) rfl
          have p0 := HBp8.out.cell (i := 0) rfl
          have p1' := HBp8.out.cell (i := 1) rfl
          have p2 := HBp8.out.cell (i := 2) rfl
          have p3 := HBp8.out.cell (i := 3) rfl
          have hl8 := HBx8.out.lt
          have HO8 := Lib.hid (own_on HOwn.out (hb7.trans (hb8.mono hb7.size)))
          have HI8 := Lib.hid (hi7.below (hb8.mono (by have := hb7.size; omega)))
          have HRd := Lib.hid hrd
          have HC := Lib.hid (And.intro hc7 hc71)
          have hB8 : B < w8.heap.size := by omega
          clear hb7 hb8 hbp hz8 hi7 hrd hc7 hc71
          go_wp2_with (at_builtin; refine wpList_append_own _ rfl _ _ 56 rfl (w1.heap.size + 1) 58 i0 (.agg #[.slice none 0 0, .string ⟨#[]⟩, .int .i64 0, .slice none 0 0]) 4 72 Tryd.underlying56 HI.out.1 HI.out.2.1 HI.out.2.2.1 HI.out.2.2.2 rfl (by decide) _ _ _ rfl (HO8.out.alloc _) ⟨w8.heap.size, 0, none⟩ 1 1 [.slice A1 m1 k1, .string s1, .int .i64 p1, .slice A4 m4 k4] rfl rfl (cells_new _ #[.slice A1 m1 k1, .string s1, .int .i64 p1, .slice A4 m4 k4] _) (fun x hx => by simp at hx; rcases hx with rfl | rfl | rfl | rfl <;> rfl) (by unfold maxLen; omega) (by omega) (by simp; omega) ?_; intro v1 w9 hown1 hgrow1 hnil1; obtain ⟨A9, m9, k9, rfl⟩ := own_slice hown1; have HO9 := Lib.hid hown1; have HBx9 := Lib.hid (box_grown (HBx8.out.on ((Below.refl w8.heap.size w8).alloc (Nat.le_refl _) (.cells #[.slice A1 m1 k1, .string s1, .int .i64 p1, .slice A4 m4 k4] 58))) hgrow1 (fun k hk => by have := (own_lt (HO8.out.alloc (.cells #[.slice A1 m1 k1, .string s1, .int .i64 p1, .slice A4 m4 k4] 58)) k hk).1; omega)); have HB9 := Lib.hid (((Below.refl w1.heap.size w8).alloc (Nat.le_of_lt hl8) (.cells #[.slice A1 m1 k1, .string s1, .int .i64 p1, .slice A4 m4 k4] 58)).grown hgrow1 (by simp; omega) (fun k hk => by have := (own_lt (HO8.out.alloc (.cells #[.slice A1 m1 k1, .string s1, .int .i64 p1, .slice A4 m4 k4] 58)) k hk).1; omega)); have y9 := HBx9.out.cell (i := 3) rfl; have f9 := World.rowIs.frozen HBx9.out 3; clear hown1 hgrow1 hnil1 y3 p0 p1' p2 p3)
          have HB10 := Lib.hid (HB9.out.setCell (p := ⟨w1.heap.size, 3, none⟩) (Nat.le_refl _) (.slice A9 m9 k9))
          clear y9 f9
          go_roundw
          case rel =>
            refine ⟨j + 1, r', A7, c7, .slice A9 m9 k9, _, by go_num, by omega, rfl, HC.out.1, HC.out.2, ?_, HI8.out.below (HB10.out.mono (by omega)), ?_, HBx9.out.set 3 (.slice A9 m9 k9), ⟨_, _, _, rfl⟩, own_set HO9.out (by show w1.heap.size < w1.heap.size + 1; omega) _, HB8.out.trans (HB10.out.mono hWw1)⟩
            · obtain ⟨kk, h0, h1, e⟩ := rd_drop n r r' HRd.out
              rw [e, List.length_drop]
              omega
            · rw [HRep.out]
              obtain ⟨i, hi⟩ : ∃ i, pp - j = i + 1 := ⟨pp - j - 1, by omega⟩
              rw [hi, rep_next, HRd.out, show pp - (j + 1) = i by omega]
          case measure => simp [intOf]; omega
      · have hje : pp - j = 0 := by omega
        rw [hje] at HRep
        have HRn := Lib.hid (show rdF (n + 1) f = some r from HR.out.trans HRep.out)
        have x0 := HBx.out.cell (i := 0) rfl
        have x1 := HBx.out.cell (i := 1) rfl
        have x2 := HBx.out.cell (i := 2) rfl
        have x3 := HBx.out.cell (i := 3) rfl
        have t0 := HBt2.out.cell (i := 0) rfl
        have t1 := HBt2.out.cell (i := 1) rfl
        have t2 := HBt2.out.cell (i := 2) rfl
        have t3 := HBt2.out.cell (i := 3) rfl
        have f0 := World.rowIs.frozen HBt2.out 0
        have f1 := World.rowIs.frozen HBt2.out 1
        have f2 := World.rowIs.frozen HBt2.out 2
        have f3 := World.rowIs.frozen HBt2.out 3
        have h4 := (((HBt2.out.set 0 (.slice (some ⟨gk, 0, none⟩) m m)).set 1 (.string s)).set 2 (.int .i64 (pp : Nat))).set 3 (.slice PA pm pk)
        have u0 := h4.cell (i := 0) rfl
        have u1 := h4.cell (i := 1) rfl
        have u2 := h4.cell (i := 2) rfl
        have u3 := h4.cell (i := 3) rfl
        have HB9 := Lib.hid (HB.out.trans (HBel.out.mono HB.out.size))
        have HB3 := fun (B' : Nat) (w0 : World) (hb : Below B' w0 wr) (hl : B' ≤ w.heap.size + 1) => (((hb.setCell (p := ⟨w.heap.size + 1, 0, none⟩) hl (.slice (some ⟨gk, 0, none⟩) m m)).setCell (p := ⟨w.heap.size + 1, 1, none⟩) hl (.string s)).setCell (p := ⟨w.heap.size + 1, 2, none⟩) hl (.int .i64 (pp : Nat))).setCell (p := ⟨w.heap.size + 1, 3, none⟩) hl (.slice PA pm pk)
        have HB4 := Lib.hid (HB3 _ _ HB9.out (by omega))
        have HI4 := Lib.hid (HRi.out.below (HB3 _ _ (Below.refl B wr) (by omega)))
        clear h4 HB3 hbx
        go_wp2_with fail
        refine bodyPost_ret (v := .tuple #[.agg #[.slice (some ⟨gk, 0, none⟩) m m, .string s, .int .i64 (pp : Nat), .slice PA pm pk], .slice A' r.length c', .bool true]) (by simp [results, Tryd.results87, go_sem, u0, u1, u2, u3]) rfl ?_
        exact ⟨HB4.out, _, ⟨_, _, _, _, _, _, _, _, rfl⟩, by rw [HRn.out]; exact ⟨A', c', rfl, HI4.out, hrc, hcc⟩⟩
  · have hr := rd_nohead (n := n) hno
    have HR := Lib.hid hr
    have HB1 := Lib.hid (HB.out.trans (hb.mono HB.out.size))
    have HBt1 := Lib.hid (HBt.out.on hb)
    have t0 := HBt1.out.cell (i := 0) rfl
    have t1 := HBt1.out.cell (i := 1) rfl
    have t2 := HBt1.out.cell (i := 2) rfl
    have t3 := HBt1.out.cell (i := 3) rfl
    have f0 := World.rowIs.frozen HBt1.out 0
    have f1 := World.rowIs.frozen HBt1.out 1
    have f2 := World.rowIs.frozen HBt1.out 2
    have f3 := World.rowIs.frozen HBt1.out 3
    clear hr hb hno z0
    have h4 := (((HBt1.out.set 0 (.slice none 0 0)).set 1 (.string ⟨#[]⟩)).set 2 (.int .i64 0)).set 3 (.slice none 0 0)
    have u0 := h4.cell (i := 0) rfl
    have u1 := h4.cell (i := 1) rfl
    have u2 := h4.cell (i := 2) rfl
    have u3 := h4.cell (i := 3) rfl
    have HB4 := Lib.hid ((((HB1.out.setCell (p := ⟨w.heap.size + 1, 0, none⟩) (by show w.heap.size ≤ w.heap.size + 1; omega) (.slice none 0 0)).setCell (p := ⟨w.heap.size + 1, 1, none⟩) (by show w.heap.size ≤ w.heap.size + 1; omega) (.string ⟨#[]⟩)).setCell (p := ⟨w.heap.size + 1, 2, none⟩) (by show w.heap.size ≤ w.heap.size + 1; omega) (.int .i64 0)).setCell (p := ⟨w.heap.size + 1, 3, none⟩) (by show w.heap.size ≤ w.heap.size + 1; omega) (.slice none 0 0))
    clear h4
    go_wp2_with fail
    refine bodyPost_ret (v := .tuple #[.agg #[.slice none 0 0, .string ⟨#[]⟩, .int .i64 0, .slice none 0 0], .slice none 0 0, .bool false]) (by simp [results, Tryd.results87, go_sem, u0, u1, u2, u3]) rfl ?_
    exact ⟨HB4.out, _, ⟨_, _, _, _, _, _, _, _, rfl⟩, by rw [HR.out]⟩
theorem read_any : ∀ n, ReadN n
  | 0 => read_zero
  | n + 1 => read_step (read_any n)
end Go.Proofs.YtlpgldejmdiceabDoor.frt
