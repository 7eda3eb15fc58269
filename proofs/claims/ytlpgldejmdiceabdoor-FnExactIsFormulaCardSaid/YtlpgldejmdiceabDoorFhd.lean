/- impl.formulaHeads. -/
import Derived.Test.YtlpgldejmdiceabDoorFoh
import Derived.Test.YtlpgldejmdiceabDoorIts
namespace Go.Proofs.YtlpgldejmdiceabDoor.fhd
open kit bg opn strs only hb sg sig isig un over hi fox foh
open Go.RowKit
set_option linter.unusedVariables false
set_option linter.unusedSimpArgs false
abbrev Hd := Value × ByteArray × Nat
/-- the cells of a list of heads -/
def hcs (hs : List Hd) : List Value := hs.flatMap (fun t => [t.1, .string t.2.1, .int .i64 (t.2.2 : Nat)])
theorem hcs_len (hs : List Hd) : (hcs hs).length = hs.length * 3 := by
  induction hs with
  | nil => rfl
  | cons t ts ih => unfold hcs at *; rw [List.flatMap_cons, List.length_append, ih]; simp; omega
theorem hcs_snoc (hs : List Hd) (t : Hd) : hcs (hs ++ [t]) = hcs hs ++ [t.1, .string t.2.1, .int .i64 (t.2.2 : Nat)] := by unfold hcs; rw [List.flatMap_append]; simp
theorem hcs_get : ∀ {hs : List Hd} {k : Nat} {t : Hd}, hs[k]? = some t → (hcs hs)[k * 3]? = some t.1 ∧ (hcs hs)[k * 3 + 1]? = some (.string t.2.1) ∧ (hcs hs)[k * 3 + 2]? = some (.int .i64 (t.2.2 : Nat))
  | [], k, t, h => by simp at h
  | q :: ts, 0, t, h => by
    simp at h
    subst h
    exact ⟨rfl, rfl, rfl⟩
  | q :: ts, k + 1, t, h => by
    have ih := hcs_get (hs := ts) (k := k) (t := t) (by simpa using h)
    have e : hcs (q :: ts) = q.1 :: .string q.2.1 :: .int .i64 (q.2.2 : Nat) :: hcs ts := rfl
    rw [e, show (k + 1) * 3 = k * 3 + 1 + 1 + 1 by omega]
    exact ⟨by simpa using ih.1, by simpa using ih.2.1, by simpa using ih.2.2⟩
/-- a list of heads that grows in memory of its own -/
def OwnHd (w : World) (lo : Nat) (v : Value) (hs : List Hd) : Prop := w.ownsRow lo 55 3 v hs.length (hcs hs) ∧ v ≠ .slice none 0 0
/-- these are the first heads -/
def HdOk (w : World) (hs : List Hd) : Prop := ∀ (j : Nat) t, hs[j]? = some t → t.2.2 = hdP j ∧ ∃ g, t.1 = .slice (some ⟨g, 0, none⟩) (hdN j).length (hdN j).length ∧ w.rowIs g 3 (hdN j).length (iat (hdN j))
theorem rowF_uniq {w : World} {g n n' : Nat} {t t' : TypeId} {f f' : Nat → Value} (h : w.rowIs g t n f) (h' : w.rowIs g t' n' f') : t = t' := by
  obtain ⟨c, a, _⟩ := h
  obtain ⟨c', a', _⟩ := h'
  rw [a] at a'
  injection a' with a'
  injection a'
theorem ownHd_row {w : World} {lo : Nat} {v : Value} {hs : List Hd} (h : OwnHd w lo v hs) : ∃ g m f, v.ownBlock = some g ∧ lo ≤ g ∧ w.rowIs g 55 m f := by
  obtain ⟨⟨h1, h2⟩, hn⟩ := h
  rcases h2 with ⟨e, _⟩ | ⟨g, cap, cur, rfl, hb, hh, hc, hm, hs, ht⟩
  · exact absurd e hn
  · exact ⟨g, cap * 3, (fun i => (cur[i]?).getD undef), rfl, hb, cur, hh, by simpa using hs, fun i hi => by
      show cur[i]? = some ((cur[i]?).getD undef)
      rw [Array.getElem?_eq_getElem (show i < cur.size by omega)]; rfl⟩
theorem hdOk_on {w w' : World} {hs : List Hd} (h : HdOk w hs) (hb : Below w.heap.size w w') : HdOk w' hs := fun j t hj => by
  obtain ⟨h1, g, h2, h3⟩ := h j t hj
  exact ⟨h1, g, h2, h3.of_block (hb.block g h3.lt)⟩
theorem hdOk_grow {w w' : World} {hs ks : List Hd} {lo : Nat} {v : Value} (h : HdOk w hs) (ho : OwnHd w lo v ks) (hg : w.grownBy w' v.ownBlock) : HdOk w' hs := fun j t hj => by
  obtain ⟨h1, g, h2, h3⟩ := h j t hj
  obtain ⟨r, m, f, e, _, hr⟩ := ownHd_row ho
  rw [e] at hg
  refine ⟨h1, g, h2, h3.of_block (hg.block g h3.lt (fun e2 => ?_))⟩
  injection e2 with e2
  subst e2
  exact absurd (rowF_uniq h3 hr) (by decide)
theorem hdOk_snoc {w : World} {hs : List Hd} {t : Hd} (h : HdOk w hs) (ht : t.2.2 = hdP hs.length ∧ ∃ g, t.1 = .slice (some ⟨g, 0, none⟩) (hdN hs.length).length (hdN hs.length).length ∧ w.rowIs g 3 (hdN hs.length).length (iat (hdN hs.length))) : HdOk w (hs ++ [t]) := fun j u hj => by
  by_cases hl : j < hs.length
  · rw [List.getElem?_append_left hl] at hj
    exact h j u hj
  · have hl2 := (List.getElem?_eq_some_iff.1 hj).1
    rw [List.length_append] at hl2
    obtain rfl : j = hs.length := by simp at hl2; omega
    rw [List.getElem?_append_right (Nat.le_refl _), Nat.sub_self] at hj
    injection hj with hj
    subst hj
    exact ht
theorem ownHd_on {w w' : World} {lo : Nat} {v : Value} {hs : List Hd} (h : OwnHd w lo v hs) (hb : Below w.heap.size w w') : OwnHd w' lo v hs := by
  obtain ⟨⟨a1, a2⟩, a3⟩ := h
  refine ⟨⟨a1, ?_⟩, a3⟩
  rcases a2 with ⟨e, _⟩ | ⟨g, cap, cur, e, hbb, hh, rr⟩
  · exact absurd e a3
  · exact .inr ⟨g, cap, cur, e, hbb, (hb.block g (Array.getElem?_eq_some_iff.1 hh).1).trans hh, rr⟩
theorem ownHd_at {w : World} {lo : Nat} {v : Value} {hs : List Hd} (h : OwnHd w lo v hs) (hl : hs.length = 19) (hk : HdOk w hs) : ∃ g c, v = .slice (some ⟨g, 0, none⟩) 19 c ∧ HdsAt w w.heap.size g := by
  obtain ⟨⟨h1, h2⟩, hn⟩ := h
  rcases h2 with ⟨e, _⟩ | ⟨g, cap, cur, rfl, hb, hh, hc, hm, hsz, ht⟩
  · exact absurd e hn
  · have hrow : w.rowIs g 55 (cap * 3) (fun i => (cur[i]?).getD undef) := ⟨cur, hh, by simpa using hsz, fun i hi => by
      show cur[i]? = some ((cur[i]?).getD undef)
      rw [Array.getElem?_eq_getElem (show i < cur.size by omega)]; rfl⟩
    have hat : ∀ (i : Nat) u, i < hs.length * 3 → (hcs hs)[i]? = some u → (cur[i]?).getD undef = u := fun i u hi hu => by
      rw [← ht, List.getElem?_take_of_lt hi] at hu
      have hu2 : cur[i]? = some u := by simpa using hu
      rw [hu2]; rfl
    refine ⟨g, cap, by rw [hl], hrow.lt, fun k hk19 => ?_⟩
    have hkl : k < hs.length := by omega
    have hx : hs[k]? = some (hs[k]'hkl) := List.getElem?_eq_getElem _
    obtain ⟨e1, e2, e3⟩ := hcs_get hx
    obtain ⟨p1, gk, p2, p3⟩ := hk k _ hx
    refine ⟨gk, (hs[k]'hkl).2.1, p3.lt, (hrow.cell (by omega)).trans (congrArg some ((hat _ _ (by omega) e1).trans p2)), (hrow.cell (by omega)).trans (congrArg some (hat _ _ (by omega) e2)), (hrow.cell (by omega)).trans (congrArg some ((hat _ _ (by omega) e3).trans (by rw [p1]))), by simp, fun _ => ⟨gk, 0, rfl, p3.lt, fun i u hi => ?_⟩⟩
    rw [List.getElem?_map] at hi
    obtain ⟨z, hz, rfl⟩ := Option.map_eq_some_iff.1 hi
    have hlt := (List.getElem?_eq_some_iff.1 hz).1
    rw [Nat.zero_add, p3.cell hlt, iat_of hz]
theorem ownHd_lit (w : World) (x1 x2 x3 : Value) (t1 t2 t3 : ByteArray) (p1 p2 p3 : Nat) (z1 z2 z3 : Int) (h1 : (p1 : Int) = z1) (h2 : (p2 : Int) = z2) (h3 : (p3 : Int) = z3) : OwnHd (w.alloc (.cells #[x1, .string t1, .int .i64 z1, x2, .string t2, .int .i64 z2, x3, .string t3, .int .i64 z3] 55)) w.heap.size (.slice (some ⟨w.heap.size, 0, none⟩) 3 3) [(x1, t1, p1), (x2, t2, p2), (x3, t3, p3)] := by
  subst h1 h2 h3
  exact ⟨⟨hcs_len _, .inr ⟨w.heap.size, 3, #[x1, .string t1, .int .i64 (p1 : Nat), x2, .string t2, .int .i64 (p2 : Nat), x3, .string t3, .int .i64 (p3 : Nat)], rfl, Nat.le_refl _, by
    show (w.heap.push (.cells _ _))[w.heap.size]? = some _
    exact Array.getElem?_push_size, Nat.le_refl _, by unfold maxLen; omega, by simp, rfl⟩⟩, by simp⟩
theorem dig_len : ∀ k, k < 8 → (Lib.decDigits k).toArray.size ≤ 3 := by decide +kernel
theorem itoa_any (k : Nat) (h : k < 8) (w : World) : ∃ D : ByteArray, D.size ≤ 3 ∧ Calls Tryd.prog 124 #[.int .i64 k] w fun e w' => e = .returned (.string D) ∧ w = w' :=
  ⟨⟨(Lib.decDigits k).toArray⟩, dig_len k h, (Tryd.strconv_Itoa_small k (by omega) w).mono fun _ _ h => ⟨h.1, h.2.symm⟩⟩
theorem ownHd_mono {w : World} {lo lo' : Nat} {v : Value} {hs : List Hd} (h : OwnHd w lo v hs) (hl : lo' ≤ lo) : OwnHd w lo' v hs := by
  obtain ⟨⟨a1, a2⟩, a3⟩ := h
  refine ⟨⟨a1, ?_⟩, a3⟩
  rcases a2 with ⟨e, _⟩ | ⟨g, cap, cur, e, hbb, rr⟩
  · exact absurd e a3
  · exact .inr ⟨g, cap, cur, e, Nat.le_trans hl hbb, rr⟩
theorem hd_mark {k : Nat} (h : k < 8) : hdN (k + 3) = [1, (k : Int)] ∧ hdP (k + 3) = 0 := by
  unfold hdN hdP
  rw [if_neg (by omega), if_neg (by omega), if_neg (by omega), if_pos (by omega), if_neg (by omega), if_neg (by omega), if_neg (by omega), if_pos (by omega)]
  exact ⟨by simp, rfl⟩
theorem hd_can {k : Nat} (h : k < 8) : hdN (k + 11) = [4, (k : Int)] ∧ hdP (k + 11) = 1 := by
  unfold hdN hdP
  rw [if_neg (by omega), if_neg (by omega), if_neg (by omega), if_neg (by omega), if_neg (by omega), if_neg (by omega), if_neg (by omega), if_neg (by omega)]
  exact ⟨by simp, rfl⟩
theorem hd_info : (Tryd.prog.info? 55).map (fun i => (i.zero, i.size, i.bytes)) = some (some (.agg #[.slice none 0 0, .string ByteArray.empty, .int .i64 0]), 3, 48) := by kernel_rfl
theorem three_new (w : World) (a b c : Value) (t : TypeId) : ∀ (j : Nat) u, [a, b, c][j]? = some u → (w.alloc (.cells #[a, b, c] t)).cell? ((⟨w.heap.size, 0, none⟩ : Addr).add j) = some u := by
  have hr := row_new w #[a, b, c] t 3 rfl
  intro j u hu
  match j, hu with
  | 0, hu => injection hu with hu; subst hu; exact hr.cell (show 0 < 3 by omega)
  | 1, hu => injection hu with hu; subst hu; exact hr.cell (show 1 < 3 by omega)
  | 2, hu => injection hu with hu; subst hu; exact hr.cell (show 2 < 3 by omega)
theorem one_row (w : World) (z : Int) : (w.alloc (.cells #[.int .i64 z] 3)).rowIs w.heap.size 3 1 (iat [z]) := (row_new w #[.int .i64 z] 3 1 rfl).congr (fun i hi => by
  obtain rfl : i = 0 := by omega
  rfl)
theorem two_row (w : World) (y z : Int) : (w.alloc (.cells #[.int .i64 y, .int .i64 z] 3)).rowIs w.heap.size 3 2 (iat [y, z]) := (row_new w #[.int .i64 y, .int .i64 z] 3 2 rfl).congr (fun i hi => by
  by_cases h : i = 0
  · subst h; rfl
  · obtain rfl : i = 1 := by omega
    rfl)
set_option maxRecDepth 20000 in
set_option maxHeartbeats 6400000 in
theorem heads_any (w : World) :
    Calls Tryd.prog 88 #[] w fun e w' => ∃ g c, e = .returned (.slice (some ⟨g, 0, none⟩) 19 c) ∧ HdsAt w' w'.heap.size g ∧ Below w.heap.size w w' := by
  have hb1 := (Below.refl w.heap.size w).alloc (Nat.le_refl _) (.cells #[.int .i64 0] 3)
  have r1 := one_row w 0
  obtain ⟨W1, hW1⟩ : ∃ W1, w.alloc (.cells #[.int .i64 0] 3) = W1 := ⟨_, rfl⟩
  have s1 : W1.heap.size = w.heap.size + 1 := by rw [← hW1]; simp
  rw [hW1] at hb1 r1
  have hb2 := (Below.refl W1.heap.size W1).alloc (Nat.le_refl _) (.cells #[.int .i64 2] 3)
  have r2 := one_row W1 2
  obtain ⟨W2, hW2⟩ : ∃ W2, W1.alloc (.cells #[.int .i64 2] 3) = W2 := ⟨_, rfl⟩
  have s2 : W2.heap.size = w.heap.size + 2 := by rw [← hW2]; simp [s1]
  rw [hW2] at hb2 r2
  have hb3 := (Below.refl W2.heap.size W2).alloc (Nat.le_refl _) (.cells #[.int .i64 3] 3)
  have r3 := one_row W2 3
  obtain ⟨W3, hW3⟩ : ∃ W3, W2.alloc (.cells #[.int .i64 3] 3) = W3 := ⟨_, rfl⟩
  have s3 : W3.heap.size = w.heap.size + 3 := by rw [← hW3]; simp [s2]
  rw [hW3] at hb3 r3
  have ho := ownHd_lit W3 (.slice (some ⟨w.heap.size, 0, none⟩) 1 1) (.slice (some ⟨w.heap.size + 1, 0, none⟩) 1 1) (.slice (some ⟨w.heap.size + 1 + 1, 0, none⟩) 1 1) ⟨#[116]⟩ ⟨#[33]⟩ ⟨#[38]⟩ 0 1 2 0 1 2 rfl rfl rfl
  have hb4 := (Below.refl W3.heap.size W3).alloc (Nat.le_refl _) (.cells #[.slice (some ⟨w.heap.size, 0, none⟩) 1 1, .string ⟨#[116]⟩, .int .i64 0, .slice (some ⟨w.heap.size + 1, 0, none⟩) 1 1, .string ⟨#[33]⟩, .int .i64 1, .slice (some ⟨w.heap.size + 1 + 1, 0, none⟩) 1 1, .string ⟨#[38]⟩, .int .i64 2] 55)
  obtain ⟨W4, hW4⟩ : ∃ W4, W3.alloc (.cells #[.slice (some ⟨w.heap.size, 0, none⟩) 1 1, .string ⟨#[116]⟩, .int .i64 0, .slice (some ⟨w.heap.size + 1, 0, none⟩) 1 1, .string ⟨#[33]⟩, .int .i64 1, .slice (some ⟨w.heap.size + 1 + 1, 0, none⟩) 1 1, .string ⟨#[38]⟩, .int .i64 2] 55) = W4 := ⟨_, rfl⟩
  have s4 : W4.heap.size = w.heap.size + 4 := by rw [← hW4]; simp [s3]
  rw [hW4] at hb4 ho
  rw [s3] at ho
  rw [s1] at r2
  rw [s2] at r3
  have hok : HdOk W4 [(.slice (some ⟨w.heap.size, 0, none⟩) 1 1, ⟨#[116]⟩, 0), (.slice (some ⟨w.heap.size + 1, 0, none⟩) 1 1, ⟨#[33]⟩, 1), (.slice (some ⟨w.heap.size + 1 + 1, 0, none⟩) 1 1, ⟨#[38]⟩, 2)] := fun j t hj => by
    have hl := (List.getElem?_eq_some_iff.1 hj).1
    match j, hj with
    | 0, hj => injection hj with hj; subst hj; exact ⟨rfl, _, rfl, ((r1.of_block (hb2.block _ (by omega))).of_block (hb3.block _ (by omega))).of_block (hb4.block _ (by omega))⟩
    | 1, hj => injection hj with hj; subst hj; exact ⟨rfl, _, rfl, (r2.of_block (hb3.block _ (by omega))).of_block (hb4.block _ (by omega))⟩
    | 2, hj => injection hj with hj; subst hj; exact ⟨rfl, _, rfl, r3.of_block (hb4.block _ (by omega))⟩
    | j + 3, hj => exact absurd hl (by simp)
  have HO := Lib.hid ho
  have HK := Lib.hid hok
  have HB := Lib.hid (((hb1.trans (hb2.mono (by omega))).trans (hb3.mono (by omega))).trans (hb4.mono (by omega)))
  have HQ := Lib.hid (And.intro hW1 (And.intro hW2 (And.intro hW3 hW4)))
  have HS := Lib.hid (And.intro s1 (And.intro s2 (And.intro s3 s4)))
  obtain ⟨i0, hi, hz0, hz1, hz2⟩ := info_parts hd_info
  have HI := Lib.hid (And.intro hi (And.intro hz0 (And.intro hz1 hz2)))
  clear hb1 hb2 hb3 hb4 r1 r2 r3 ho hok hW1 hW2 hW3 hW4 s1 s2 s3 s4 hi hz0 hz1 hz2
  go_enter Tryd.func88, Tryd.ntmps88
  go_wp2_with fail
  rw [HQ.out.1, HQ.out.2.1, HQ.out.2.2.1, HQ.out.2.2.2]
  go_loopw [1, 2, 12] (fun v _ i wr => ∃ (k : Nat) (hs : List Hd), k ≤ 8 ∧ i = .int .i64 k ∧ hs.length = k + 3 ∧ OwnHd wr w.heap.size v hs ∧ HdOk wr hs ∧ Below w.heap.size w wr) (fun _ _ i _ => 8 - (intOf i).toNat)
  case atStart => exact ⟨0, _, Nat.zero_le _, rfl, rfl, ownHd_mono HO.out (Nat.le_add_right _ _), HK.out, HB.out⟩
  case round =>
    obtain ⟨k, hs, hk, rfl, hlen, hown, hok, hbel⟩ := hrel
    have HO := Lib.hid hown
    have HK := Lib.hid hok
    have HB := Lib.hid hbel
    by_cases hlt : k < 8
    · have hb1 := (Below.refl wr.heap.size wr).alloc (Nat.le_refl _) (.cells #[.int .i64 1, .int .i64 (k : Int)] 3)
      have rr := two_row wr 1 (k : Int)
      have ho1 := ownHd_on hown hb1
      obtain ⟨W1, hW1⟩ : ∃ W1, wr.alloc (.cells #[.int .i64 1, .int .i64 (k : Int)] 3) = W1 := ⟨_, rfl⟩
      rw [hW1] at hb1 rr ho1
      have HW1 := Lib.hid hW1
      have HB1 := Lib.hid hb1
      have HR := Lib.hid rr
      have HO1 := Lib.hid ho1
      obtain ⟨Dg, hDg, hI⟩ := itoa_any k hlt W1
      obtain ⟨hown1, hnn⟩ := ho1
      have HN := Lib.hid hnn
      have hltO := hown1.lt
      have hlo := hbel.size
      have hlo1 := hb1.size
      obtain ⟨np, hnp⟩ : ∃ np, hs.length = np := ⟨_, rfl⟩
      rw [hnp] at hown1 hlen
      have HNp := Lib.hid hnp
      obtain ⟨Dc, hDc⟩ : ∃ Dc, hcs hs = Dc := ⟨_, rfl⟩
      rw [hDc] at hown1
      have HDc := Lib.hid hDc
      clear hown hok hbel hb1 rr hW1 hnn hnp hDc
      go_wp2_with fail
      rw [HW1.out]
      refine hI.mono ?_
      rintro e w2 ⟨rfl, rfl⟩
      clear hI
      go_wp2_with (at_builtin; refine wpList_append_own _ rfl _ _ 114 rfl w.heap.size 55 i0 (.agg #[.slice none 0 0, .string ByteArray.empty, .int .i64 0]) 3 48 Tryd.underlying114 HI.out.1 HI.out.2.1 HI.out.2.2.1 HI.out.2.2.2 rfl (by decide) _ _ _ rfl (hown1.alloc _) ⟨W1.heap.size, 0, none⟩ 1 1 [.slice (some ⟨wr.heap.size, 0, none⟩) 2 2, .string _, .int .i64 0] rfl rfl (three_new _ _ _ _ _) (fun x hx => by simp at hx; rcases hx with rfl | rfl | rfl <;> rfl) (by unfold maxLen; omega) (by omega) (by simp; omega) ?_; intro v1 w3 hown3 hgrow3 hnil3)
      obtain ⟨S, hO3⟩ : ∃ S, OwnHd w3 w.heap.size v1 (hs ++ [(.slice (some ⟨wr.heap.size, 0, none⟩) 2 2, S, 0)]) := ⟨_, by
        rw [hcs_snoc, HDc.out, List.length_append, List.length_singleton, HNp.out]
        exact hown3, fun h => HN.out (hnil3.1 h).1⟩
      have hal := (Below.refl W1.heap.size W1).alloc (Nat.le_refl _) (.cells #[.slice (some ⟨wr.heap.size, 0, none⟩) 2 2, .string (⟨#[109]⟩ ++ Dg), .int .i64 0] 55)
      have hB3 := (((HB.out.trans (HB1.out.mono hlo)).alloc (by omega) (.cells #[.slice (some ⟨wr.heap.size, 0, none⟩) 2 2, .string (⟨#[109]⟩ ++ Dg), .int .i64 0] 55))).grown hgrow3 (by simp; omega) (fun j hj => (hltO j hj).1)
      obtain ⟨e1, e2⟩ := hd_mark hlt
      have hR3 : (W1.alloc (.cells #[.slice (some ⟨wr.heap.size, 0, none⟩) 2 2, .string (⟨#[109]⟩ ++ Dg), .int .i64 0] 55)).rowIs wr.heap.size 3 2 (iat [1, (k : Int)]) := HR.out.of_block (hal.block _ HR.out.lt)
      have hlh : hs.length = k + 3 := HNp.out.trans hlen
      have hK3 : HdOk (W1.alloc (.cells #[.slice (some ⟨wr.heap.size, 0, none⟩) 2 2, .string (⟨#[109]⟩ ++ Dg), .int .i64 0] 55)) (hs ++ [(.slice (some ⟨wr.heap.size, 0, none⟩) 2 2, S, 0)]) := hdOk_snoc (hdOk_on (hdOk_on HK.out HB1.out) hal) (by rw [hlh, e1, e2]; exact ⟨rfl, _, rfl, hR3⟩)
      have HK3 := Lib.hid (hdOk_grow hK3 (ownHd_on HO1.out hal) hgrow3)
      have HO3 := Lib.hid hO3
      have HB3 := Lib.hid hB3
      have HL3 := Lib.hid hlh
      clear hown3 hgrow3 hnil3 hO3 hal hB3 hR3 hK3 e1 e2 hown1 hltO hlh
      go_wp2_with fail
      go_roundw
      case rel => exact ⟨k + 1, _, by omega, by go_num, by rw [List.length_append, HL3.out]; rfl, HO3.out, HK3.out, HB3.out⟩
      case measure => simp [intOf]; omega
    · have hl11 : hs.length = 0 + 11 := by omega
      go_wp2_with fail
      rename World => w5
      go_loopw [1, 3, 4, 25] (fun v _ _ i wr => ∃ (k : Nat) (hs : List Hd), k ≤ 8 ∧ i = .int .i64 k ∧ hs.length = k + 11 ∧ OwnHd wr w.heap.size v hs ∧ HdOk wr hs ∧ Below w.heap.size w wr) (fun _ _ _ i _ => 8 - (intOf i).toNat)
      case atStart => exact ⟨0, hs, Nat.zero_le _, rfl, hl11, HO.out, HK.out, HB.out⟩
      case round =>
        clear hl11 hlen HO HK HB
        obtain ⟨k, hs, hk, rfl, hlen, hown, hok, hbel⟩ := hrel
        have HO := Lib.hid hown
        have HK := Lib.hid hok
        have HB := Lib.hid hbel
        by_cases hlt : k < 8
        · have hb1 := (Below.refl wr.heap.size wr).alloc (Nat.le_refl _) (.cells #[.int .i64 4, .int .i64 (k : Int)] 3)
          have rr := two_row wr 4 (k : Int)
          have ho1 := ownHd_on hown hb1
          obtain ⟨W1, hW1⟩ : ∃ W1, wr.alloc (.cells #[.int .i64 4, .int .i64 (k : Int)] 3) = W1 := ⟨_, rfl⟩
          rw [hW1] at hb1 rr ho1
          have HW1 := Lib.hid hW1
          have HB1 := Lib.hid hb1
          have HR := Lib.hid rr
          have HO1 := Lib.hid ho1
          obtain ⟨Dg, hDg, hI⟩ := itoa_any k hlt wr
          obtain ⟨hown1, hnn⟩ := ho1
          have HN := Lib.hid hnn
          have hltO := hown1.lt
          have hlo := hbel.size
          have hlo1 := hb1.size
          obtain ⟨np, hnp⟩ : ∃ np, hs.length = np := ⟨_, rfl⟩
          rw [hnp] at hown1 hlen
          have HNp := Lib.hid hnp
          obtain ⟨Dc, hDc⟩ : ∃ Dc, hcs hs = Dc := ⟨_, rfl⟩
          rw [hDc] at hown1
          have HDc := Lib.hid hDc
          have hsz1 : (⟨#[60]⟩ ++ Dg : ByteArray).size ≤ 4 := by rw [ByteArray.size_append]; show 1 + Dg.size ≤ 4; omega
          clear hown hok hbel hb1 rr hW1 hnn hnp hDc
          go_wp2_with fail
          refine hI.mono ?_
          rintro e w2 ⟨rfl, rfl⟩
          clear hI
          have htn := three_new (wr.alloc (.cells #[.int .i64 4, .int .i64 (k : Int)] 3)) (.slice (some ⟨wr.heap.size, 0, none⟩) 2 2) (.string (⟨#[60]⟩ ++ Dg ++ ⟨#[62]⟩)) (.int .i64 1) 55
          rw [World.size_alloc] at htn
          have hown2 := hown1
          rw [← HW1.out] at hown2
          have hlt2 : w.heap.size ≤ (wr.alloc (.cells #[.int .i64 4, .int .i64 (k : Int)] 3)).heap.size := by rw [World.size_alloc]; omega
          go_wp2_with (at_builtin; refine wpList_append_own _ rfl _ _ 114 rfl w.heap.size 55 i0 (.agg #[.slice none 0 0, .string ByteArray.empty, .int .i64 0]) 3 48 Tryd.underlying114 HI.out.1 HI.out.2.1 HI.out.2.2.1 HI.out.2.2.2 rfl (by decide) _ _ _ rfl (hown2.alloc _) ⟨wr.heap.size + 1, 0, none⟩ 1 1 [.slice (some ⟨wr.heap.size, 0, none⟩) 2 2, .string (⟨#[60]⟩ ++ Dg ++ ⟨#[62]⟩), .int .i64 1] rfl rfl htn (fun x hx => by simp only [List.mem_cons, List.not_mem_nil, or_false] at hx; rcases hx with rfl | rfl | rfl <;> rfl) (by unfold maxLen; omega) (by omega) (by simp; omega) ?_; intro v1 w3 hown3 hgrow3 hnil3)
          rw [HW1.out] at hgrow3
          have hO3 : OwnHd w3 w.heap.size v1 (hs ++ [(.slice (some ⟨wr.heap.size, 0, none⟩) 2 2, (⟨#[60]⟩ ++ Dg ++ ⟨#[62]⟩), 1)]) := ⟨by
            rw [hcs_snoc, HDc.out, List.length_append, List.length_singleton, HNp.out]
            exact hown3, fun h => HN.out (hnil3.1 h).1⟩
          have hal := (Below.refl W1.heap.size W1).alloc (Nat.le_refl _) (.cells #[.slice (some ⟨wr.heap.size, 0, none⟩) 2 2, .string (⟨#[60]⟩ ++ Dg ++ ⟨#[62]⟩), .int .i64 1] 55)
          have hB3 := (((HB.out.trans (HB1.out.mono hlo)).alloc (by omega) (.cells #[.slice (some ⟨wr.heap.size, 0, none⟩) 2 2, .string (⟨#[60]⟩ ++ Dg ++ ⟨#[62]⟩), .int .i64 1] 55))).grown hgrow3 (by simp; omega) (fun j hj => (hltO j hj).1)
          obtain ⟨e1, e2⟩ := hd_can hlt
          have hR3 : (W1.alloc (.cells #[.slice (some ⟨wr.heap.size, 0, none⟩) 2 2, .string (⟨#[60]⟩ ++ Dg ++ ⟨#[62]⟩), .int .i64 1] 55)).rowIs wr.heap.size 3 2 (iat [4, (k : Int)]) := HR.out.of_block (hal.block _ HR.out.lt)
          have hlh : hs.length = k + 11 := HNp.out.trans hlen
          have hK3 : HdOk (W1.alloc (.cells #[.slice (some ⟨wr.heap.size, 0, none⟩) 2 2, .string (⟨#[60]⟩ ++ Dg ++ ⟨#[62]⟩), .int .i64 1] 55)) (hs ++ [(.slice (some ⟨wr.heap.size, 0, none⟩) 2 2, (⟨#[60]⟩ ++ Dg ++ ⟨#[62]⟩), 1)]) := hdOk_snoc (hdOk_on (hdOk_on HK.out HB1.out) hal) (by rw [hlh, e1, e2]; exact ⟨rfl, _, rfl, hR3⟩)
          have HK3 := Lib.hid (hdOk_grow hK3 (ownHd_on HO1.out hal) hgrow3)
          have HO3 := Lib.hid hO3
          have HB3 := Lib.hid hB3
          have HL3 := Lib.hid hlh
          clear hown3 hgrow3 hnil3 hO3 hal hB3 hR3 hK3 e1 e2 hown1 hown2 hltO hlh htn
          go_wp2_with fail
          go_roundw
          case rel => exact ⟨k + 1, _, by omega, by go_num, by rw [List.length_append, HL3.out]; rfl, HO3.out, HK3.out, HB3.out⟩
          case measure => simp [intOf]; omega
        · obtain rfl : k = 8 := by omega
          obtain ⟨g, c, rfl, hat⟩ := ownHd_at hown (by omega) hok
          have HAt := Lib.hid hat
          clear hat hown hok
          go_wp2_with fail
          go_ret
          exact ⟨g, c, rfl, HAt.out, HB.out⟩
end Go.Proofs.YtlpgldejmdiceabDoor.fhd
