/- impl.OpenName$1: what a target becomes where an edge becomes a name. -/
import Derived.Test.YtmcdbhlpmlcjpaaTg
namespace Go.Proofs.Ytmcdbhlpmlcjpaa.oc
open kit bg sg opn strs only hb sig isig un over gn nm inn ht gd im pt marks eqs hc hi hw hn rs br bm bw cf lf ib isa lawb lw cl ix tg
open Go.RowKit
set_option linter.unusedVariables false
set_option linter.unusedSimpArgs false
open Classical in
/-- an edge that becomes a name -/
noncomputable def opF (e : Int) (s : ByteArray) (u : Tgt) : Tgt := if isE u = true then (if u.edge = e then ⟨0, s⟩ else if e < u.edge then ⟨u.edge - 1, u.name⟩ else u) else u
theorem opF_name {e : Int} {s : ByteArray} {u : Tgt} (h : isE u = false) : opF e s u = u := by unfold opF; exact if_neg (by rw [h]; decide)
theorem opF_it {e : Int} {s : ByteArray} {u : Tgt} (h : isE u = true) (h1 : u.edge = e) : opF e s u = ⟨0, s⟩ := by unfold opF; rw [if_pos h, if_pos h1]
theorem opF_more {e : Int} {s : ByteArray} {u : Tgt} (h : isE u = true) (h1 : ¬ u.edge = e) (h2 : e < u.edge) : opF e s u = ⟨u.edge - 1, u.name⟩ := by unfold opF; rw [if_pos h, if_neg h1, if_pos h2]
theorem opF_less {e : Int} {s : ByteArray} {u : Tgt} (h : isE u = true) (h1 : ¬ u.edge = e) (h2 : ¬ e < u.edge) : opF e s u = u := by unfold opF; rw [if_pos h, if_neg h1, if_neg h2]
theorem two_edge {w : World} {β : Nat} {t : Tgt} (h : TwoAt w β t) (e : Int) : TwoAt (w.setCell ⟨β, 0, none⟩ (.int .i64 e)) β ⟨e, t.name⟩ := by
  obtain ⟨f, hr, h0, h1⟩ := h
  exact ⟨_, hr.set 0 (.int .i64 e), rfl, h1⟩
theorem two_far {w : World} {β γ : Nat} {t : Tgt} (h : TwoAt w γ t) (hne : γ ≠ β) (v : Value) : TwoAt (w.setCell ⟨β, 0, none⟩ v) γ t := by
  obtain ⟨f, hr, e⟩ := h
  exact ⟨f, hr.of_block (by first | exact Below.heap_setCell _ _ _ _ hne | exact Below.heap_setCell _ _ _ _ hne.symm), e⟩
set_option maxRecDepth 20000 in
set_option maxHeartbeats 1600000 in
theorem opn1_any (e : Int) (s : ByteArray) (u : Tgt) (γe γn : Nat) (w : World) (he : w.cell? ⟨γe, 0, none⟩ = some (.int .i64 e)) (hs : w.cell? ⟨γn, 0, none⟩ = some (.string s)) (hge : γe < w.heap.size) (hgn : γn < w.heap.size) (hu : -1000 ≤ u.edge ∧ u.edge ≤ 1000) :
    Calls Try.prog 90 #[tgV u, .pointer (some ⟨γe, 0, none⟩), .pointer (some ⟨γn, 0, none⟩)] w fun e' w' => e' = .returned (tgV (opF e s u)) ∧ Below w.heap.size w w' := by
  obtain ⟨ue, un⟩ := u
  have hb1 := (Below.refl w.heap.size w).alloc (Nat.le_refl _) (.cells #[.int .i64 ue, .string un] 103)
  obtain ⟨U, hU⟩ : ∃ U, w.alloc (.cells #[.int .i64 ue, .string un] 103) = U := ⟨_, rfl⟩
  have hUz : U.heap.size = w.heap.size + 1 := by rw [← hU, World.size_alloc]
  have hTu : TwoAt U w.heap.size ⟨ue, un⟩ := by rw [← hU]; exact two_new w ⟨ue, un⟩
  rw [hU] at hb1
  have hb2 := (Below.refl U.heap.size U).alloc (Nat.le_refl _) (.cells #[.int .i64 0, .string ⟨#[]⟩] 103)
  have hAl := Lib.hid (fun (q : Tgt) => And.intro (two_new U q) (hb1.trans (((Below.refl U.heap.size U).alloc (Nat.le_refl _) (.cells #[.int .i64 q.edge, .string q.name] 103)).mono hb1.size)))
  have hTz := two_new U ⟨0, ⟨#[]⟩⟩
  obtain ⟨V, hV⟩ : ∃ V, U.alloc (.cells #[.int .i64 0, .string ⟨#[]⟩] 103) = V := ⟨_, rfl⟩
  have hVz : V.heap.size = w.heap.size + 2 := by rw [← hV, World.size_alloc, hUz]
  dsimp only at hTz
  rw [hV] at hb2 hTz
  rw [hUz] at hAl hTz
  have hTv := hTu.on hb2
  have hbV := hb1.trans (hb2.mono hb1.size)
  have CE := isE_any ⟨ue, un⟩ V
  have hce := (hbV.cell (p := ⟨γe, 0, none⟩) hge).trans he
  have hcn := (hbV.cell (p := ⟨γn, 0, none⟩) hgn).trans hs
  have HUq := Lib.hid hU
  have HVq := Lib.hid hV
  have HTv := Lib.hid hTv
  have HTz := Lib.hid hTz
  have HbV := Lib.hid hbV
  obtain ⟨r0, r1⟩ := hTv.get
  dsimp only at r0 r1 hu
  unfold tgV at CE
  dsimp only at CE
  clear hU hV hb1 hb2 hTu hTv hTz hbV he hs
  have X : Hid (V.cell? ⟨γe, 0, none⟩ = some (.int .i64 e) ∧ V.cell? ⟨γn, 0, none⟩ = some (.string s)) := Lib.hid ⟨hce, hcn⟩
  rw [← HVq.out, ← HUq.out] at hce hcn r0 r1
  cases hE : isE ⟨ue, un⟩ with
  | false =>
    rw [hE] at CE
    rw [opF_name hE]
    have hE1 : un.toList.isEmpty = false := hE
    have hE2 : (un.toList == []) = false := by cases h : un.toList <;> simp_all
    unfold tgV
    dsimp only
    go_enter Try.func90, Try.ntmps90
    go_wp2_with fail
    rw [HUq.out, HVq.out]
    refine CE.mono ?_
    rintro e1 w1 ⟨rfl, hb⟩
    have HT1 := (HTz.out.on hb).put (u := ⟨ue, un⟩)
    have HU1 := (HTv.out.on hb)
    obtain ⟨q0, q1⟩ := HU1.get
    obtain ⟨z0, z1⟩ := HT1.get
    obtain ⟨p0, p1⟩ := (HTz.out.on hb).get
    obtain ⟨f0, f1⟩ := (HTz.out.on hb).fz
    have HB1 := Lib.hid (HbV.out.trans (hb.mono HbV.out.size))
    have HZ := Lib.hid (And.intro z0 z1)
    dsimp only at q0 q1 p0 p1
    clear CE hce hcn r0 r1 HU1 HT1 z0 z1 hb
    go_wp2_with fail
    obtain ⟨z0, z1⟩ := HZ.out
    try dsimp only at z0 z1
    exact bodyPost_ret (v := .agg #[.int .i64 ue, .string un]) (by simp [results, Try.results90, go_sem, z0, z1]) rfl ⟨rfl, (HB1.out.setCell (p := ⟨w.heap.size + 1, 0, none⟩) (Nat.le_succ _) _).setCell (p := ⟨w.heap.size + 1, 1, none⟩) (Nat.le_succ _) _⟩
  | true =>
    rw [hE] at CE
    have hE1 : un.toList.isEmpty = true := hE
    have hE2 : (un.toList == []) = true := by cases h : un.toList <;> simp_all
    by_cases h1 : ue = e
    · rw [opF_it hE h1]
      subst h1
      obtain ⟨z0, z1⟩ := (hAl.out ⟨0, s⟩).1.get
      dsimp only at z0 z1
      unfold tgV
      dsimp only
      clear CE
      go_enter Try.func90, Try.ntmps90
      go_wp2_with fail
      rw [HUq.out]
      exact bodyPost_ret (v := .agg #[.int .i64 0, .string s]) (by simp [results, Try.results90, go_sem, z0, z1]) rfl ⟨rfl, (hAl.out ⟨0, s⟩).2⟩
    · by_cases h2 : e < ue
      · rw [opF_more hE h1 h2]
        have hw1 : wrap64 (ue - 1) = ue - 1 := by unfold wrap64; omega
        unfold tgV
        dsimp only
        go_enter Try.func90, Try.ntmps90
        go_wp2_with fail
        rw [HUq.out, HVq.out]
        refine CE.mono ?_
        rintro e1 w1 ⟨rfl, hb⟩
        have HUe := two_edge (HTv.out.on hb) (ue - 1)
        have HZe := two_far (HTz.out.on hb) (show w.heap.size + 1 ≠ w.heap.size by omega) (.int .i64 (ue - 1))
        have HT1 := HZe.put (u := ⟨ue - 1, un⟩)
        obtain ⟨q0, q1⟩ := (HTv.out.on hb).get
        obtain ⟨g0, g1⟩ := (HTv.out.on hb).fz
        obtain ⟨q2, q3⟩ := HUe.get
        obtain ⟨p0, p1⟩ := HZe.get
        obtain ⟨f0, f1⟩ := HZe.fz
        have hce1 := (hb.cell (p := ⟨γe, 0, none⟩) (by dsimp only; omega)).trans X.out.1
        have HB1 := Lib.hid ((HbV.out.trans (hb.mono HbV.out.size)).setCell (p := ⟨w.heap.size, 0, none⟩) (Nat.le_refl _) (.int .i64 (ue - 1)))
        have HZ := Lib.hid HT1.get
        dsimp only at q0 q1 q2 q3 p0 p1
        clear CE hce hcn r0 r1 HT1 HUe HZe hb
        go_wp2_with fail
        obtain ⟨z0, z1⟩ := HZ.out
        try dsimp only at z0 z1
        exact bodyPost_ret (v := .agg #[.int .i64 (ue - 1), .string un]) (by simp [results, Try.results90, go_sem, z0, z1]) rfl ⟨rfl, (HB1.out.setCell (p := ⟨w.heap.size + 1, 0, none⟩) (Nat.le_succ _) _).setCell (p := ⟨w.heap.size + 1, 1, none⟩) (Nat.le_succ _) _⟩
      · rw [opF_less hE h1 h2]
        unfold tgV
        dsimp only
        go_enter Try.func90, Try.ntmps90
        go_wp2_with fail
        rw [HUq.out, HVq.out]
        refine CE.mono ?_
        rintro e1 w1 ⟨rfl, hb⟩
        have HT1 := (HTz.out.on hb).put (u := ⟨ue, un⟩)
        obtain ⟨q0, q1⟩ := (HTv.out.on hb).get
        obtain ⟨p0, p1⟩ := (HTz.out.on hb).get
        obtain ⟨f0, f1⟩ := (HTz.out.on hb).fz
        have hce1 := (hb.cell (p := ⟨γe, 0, none⟩) (by dsimp only; omega)).trans X.out.1
        have HB1 := Lib.hid (HbV.out.trans (hb.mono HbV.out.size))
        have HZ := Lib.hid HT1.get
        dsimp only at q0 q1 p0 p1
        clear CE hce hcn r0 r1 HT1 hb
        go_wp2_with fail
        obtain ⟨z0, z1⟩ := HZ.out
        try dsimp only at z0 z1
        exact bodyPost_ret (v := .agg #[.int .i64 ue, .string un]) (by simp [results, Try.results90, go_sem, z0, z1]) rfl ⟨rfl, (HB1.out.setCell (p := ⟨w.heap.size + 1, 0, none⟩) (Nat.le_succ _) _).setCell (p := ⟨w.heap.size + 1, 1, none⟩) (Nat.le_succ _) _⟩
end Go.Proofs.Ytmcdbhlpmlcjpaa.oc
