/- catenarylaw19: made, stableAlive. -/
import Derived.Test.YtgpkngiakhdmhaaDoorSBBS
set_option linter.unusedSimpArgs false
set_option linter.unusedVariables false
namespace Go.Proofs.YtgpkngiakhdmhaaDoor
open Go.RowKit Oct Stb MI Bal Sha
/-- Sorted votes of unlike signers are told by which they are. -/
theorem srt_eq {a b : List PVote} (ha : Srt ks a) (hb : Srt ks b) (hp : a.Perm b) (hn : (a.map ks).Nodup) : a = b := by
  refine List.Perm.eq_of_pairwise (le := fun x y => ks x ≤ ks y) (fun x y hx hy h1 h2 => ?_) ha hb hp
  have hy' := hp.mem_iff.2 hy
  have hk : ks x = ks y := by omega
  clear ha hb hp hy h1 h2
  revert hn hx hy'
  induction a with
  | nil => intro hn hx; cases hx
  | cons z zs ih =>
    intro hn hx hy'
    obtain ⟨hz, hzs⟩ := List.nodup_cons.1 hn
    rcases List.mem_cons.1 hx with ea | ha2
    · rcases List.mem_cons.1 hy' with eb | hc2
      · rw [ea, eb]
      · exact absurd (List.mem_map.2 ⟨y, hc2, by rw [← hk, ea]⟩) hz
    · rcases List.mem_cons.1 hy' with eb | hc2
      · exact absurd (List.mem_map.2 ⟨x, ha2, by rw [hk, eb]⟩) hz
      · exact ih hzs ha2 hc2
theorem tab_nmap {w : World} (h : Tab w) : NMap w 0 := cell_nmap (a := ⟨0, 0, none⟩) (h 0 (by decide))
theorem Tab.gsT {w w' : World} {S : Nat → Prop} (h : Tab w) (hg : Gs S w w') (hs : ∀ k, S k → ¬ NMap w k) : Tab w' := h.keep (hg.block _ h.pos (fun hS => hs _ hS (tab_nmap h)))
/-- A checkpoint's vote's signature. -/
def sgC (s : Int) (d : List Int) (i : Int) : List Int := signL (repL i) (sL ⟨#[118, 111, 116, 101]⟩) [numsL [10, 0, 0, s], d]
theorem sgC_rgt (s : Int) (d : List Int) {i : Int} (h0 : 0 ≤ i) (h1 : i ≤ 15) : rgtC s d (i, sgC s d i) = true := by
  have : repL i = i := by unfold repL; rw [if_pos ⟨h0, h1⟩]
  unfold rgtC rightV sgC
  simp only [this]
  unfold verL
  rw [if_pos (by omega)]
  simp
set_option maxRecDepth 10000 in
set_option maxHeartbeats 2000000 in
theorem madeC_any (w : World) (s : Int) (v : Value) (d : List Int) (hv : Rd w v d) (hl : d.length ≤ 3000000) (i : Int) (hT : Tab w) :
    Calls Tryd.prog 18 #[.int .i64 s, v, .int .i64 i] w fun e w' => ∃ v', e = .returned (.agg #[.int .i64 i, v']) ∧ RT (From w.heap.size) w' v' (sgC s d i) ∧ Below w.heap.size w w' := by
  have hM0 := fun (u : World) (hu : Below w.heap.size w u) => vMake_any u 10 0 0 s i v d (hv.below hu) hl (hT.below hu)
  obtain ⟨ao, cap, rfl, _⟩ := hv.form
  have hbz : ∀ u, (Instr.build 39 #[]).run Tryd.prog u = .ok (.agg #[.int .i64 0, .int .i64 0]) u := fun u => by kernel_rfl
  clear hv hT
  have B0 := below_alloc w (.cells #[.int .i64 0, .slice none 0 0] 28)
  have rb := Row.new w 28 [.int .i64 0, .slice none 0 0]
  have hlt := rb.lt
  generalize hw0 : w.alloc (.cells #[.int .i64 0, .slice none 0 0] 28) = w0 at *
  have rb : Row w0 w.heap.size 28 [.int .i64 0, .slice none 0 0] := by rw [← hw0]; exact Row.new w _ _
  have hM := hM0 w0 B0
  go_enter Tryd.func18, Tryd.ntmps18
  go_upto_region 1 with fail
  try rw [hw0]
  clear hw0
  go_wp2_with (first
    | (go_at_call 29; refine hM.mono ?_; rintro e w2 ⟨v2, rfl, f2, b2⟩; obtain ⟨a2, c2, rfl, _⟩ := f2.form; have rb2 := rb.below b2)
    | (refine wl_store rfl _ _ _ rfl w.heap.size [.int .i64 i, .slice a2 (sgC s d i).length c2] rfl rfl _ _ rb2 rfl (by kernel_rfl) (fun u hu => by simp only [List.mem_cons, List.not_mem_nil, or_false] at hu; rcases hu with rfl | rfl <;> rfl) ?_; intro w5 hr5 hg5))
  have hr5 := hr5.out
  refine bodyPost_ret (v := .agg ([.int .i64 i, .slice a2 (sgC s d i).length c2] : List Value).toArray) (results_cell_row rfl _ _ w.heap.size _ _ (0, 0) _ (by rfl) hr5 Tryd.underlying28 rfl (by kernel_rfl)) rfl ?_
  have B2 := below_and B0 (Nat.le_refl _) b2
  exact ⟨_, rfl, f2.mv (Mv.from hg5 hlt (by omega)), B2.trans (grown_below hg5 B2.size (fun k hk => by cases hk; omega))⟩
def D0 : List Int := List.replicate 32 0
theorem D0_len : D0.length = 32 := rfl
theorem D0_byt : Byt D0 := fun x hx => by
  have := List.eq_of_mem_replicate hx
  subst this
  decide
theorem mk32 (u : World) : (Instr.makeSlice 26 (.int .i64 32) (.int .i64 32)).run Tryd.prog u = .ok (.slice (some ⟨u.heap.size, 0, none⟩) 32 32) (u.alloc (.cells (bc D0).toArray 5)) := by kernel_rfl
/-- Behind a vote: what was read is read, the table stands, and nothing elder than the tally has turned. -/
theorem gs_keep {w w' : World} {b m B : Nat} {n cut : Int} {tl : PTl} (h : Tly w b m n cut tl) (g : Gs (Own1 m tl) w w') {v : Value} {l : List Int} (hr : RT Any w v l) : RT Any w' v l := hr.nmap.mv (g.nmap (fun k hk => (h.own hk).1))
theorem gs_tab {w w' : World} {b m : Nat} {n cut : Int} {tl : PTl} (h : Tly w b m n cut tl) (g : Gs (Own1 m tl) w w') (hT : Tab w) : Tab w' := hT.gsT g (fun k hk => (h.own hk).1)
theorem own_al {m n1 B : Nat} (hm : B ≤ m) (hn : B ≤ n1) {ch : PIn} : ∀ k, Own1 m [(4, n1, ch)] k → B ≤ k := fun k hk => by
  rcases hk with rfl | hk
  · exact hm
  · simp [blkT] at hk
    omega
theorem isR_al {i : Int} (h0 : 0 ≤ i) (h1 : i < 4) : isR 4 4 D0 (i, sgC 4 D0 i) = true := by
  unfold isR
  rw [sgC_rgt 4 D0 h0 (by omega)]
  simp [D0_len, h0, h1]
  decide
/-- The three votes of the example. -/
def al1 (S : Int → List Int) (n1 : Nat) : PTl := [(4, n1, [(0, (D0, S 0))])]
def al2 (S : Int → List Int) (n1 : Nat) : PTl := [(4, n1, [(0, (D0, S 0)), (2, (D0, S 2))])]
def al3 (S : Int → List Int) (n1 : Nat) : PTl := [(4, n1, [(0, (D0, S 0)), (2, (D0, S 2)), (3, (D0, S 3))])]
theorem vts_all : ∀ (l : List (Int × List Int)) (d : List Int), vts (l.map (fun z => (z.1, (d, z.2)))) d = l := by
  intro l d
  unfold vts
  induction l with
  | nil => rfl
  | cons x xs ih =>
    simp at ih ⊢
    exact ih
theorem add_al1 {S : Int → List Int} (hS : ∀ i, 0 ≤ i → i < 4 → isR 4 4 D0 (i, S i) = true) (nb : Nat) : addT 4 0 [] nb 4 D0 (0, S 0) = al1 S nb ∧ addB 4 0 [] 4 D0 (0, S 0) = false := by
  have h : addOk 4 0 [] 4 D0 (0, S 0) = true := by unfold addOk; rw [hS _ (by decide) (by decide)]; rfl
  refine ⟨by unfold addT; rw [h]; rfl, ?_⟩
  unfold addB
  rw [h]
  have := vts_all [(0, S 0)] D0
  simp only [List.map_cons, List.map_nil] at this
  simp only [atT, List.nil_append, this]
  rfl
theorem add_al2 {S : Int → List Int} (hS : ∀ i, 0 ≤ i → i < 4 → isR 4 4 D0 (i, S i) = true) (n1 nb : Nat) : addT 4 0 (al1 S n1) nb 4 D0 (2, S 2) = al2 S n1 ∧ addB 4 0 (al1 S n1) 4 D0 (2, S 2) = false := by
  have h : addOk 4 0 (al1 S n1) 4 D0 (2, S 2) = true := by unfold addOk; rw [hS _ (by decide) (by decide)]; rfl
  refine ⟨by unfold addT; rw [h]; rfl, ?_⟩
  unfold addB
  rw [h]
  have := vts_all [(0, S 0), (2, S 2)] D0
  simp only [List.map_cons, List.map_nil] at this
  have e : atT (al1 S n1) 4 ++ [(2, (D0, S 2))] = [(0, (D0, S 0)), (2, (D0, S 2))] := rfl
  rw [e, this]
  rfl
theorem add_al3 {S : Int → List Int} (hS : ∀ i, 0 ≤ i → i < 4 → isR 4 4 D0 (i, S i) = true) (n1 nb : Nat) : addT 4 0 (al2 S n1) nb 4 D0 (3, S 3) = al3 S n1 ∧ addB 4 0 (al2 S n1) 4 D0 (3, S 3) = true := by
  have h : addOk 4 0 (al2 S n1) 4 D0 (3, S 3) = true := by unfold addOk; rw [hS _ (by decide) (by decide)]; rfl
  refine ⟨by unfold addT; rw [h]; rfl, ?_⟩
  unfold addB
  rw [h]
  have := vts_all [(0, S 0), (2, S 2), (3, S 3)] D0
  simp only [List.map_cons, List.map_nil] at this
  have e : atT (al2 S n1) 4 ++ [(3, (D0, S 3))] = [(0, (D0, S 0)), (2, (D0, S 2)), (3, (D0, S 3))] := rfl
  rw [e, this]
  rfl
theorem crt_al (S : Int → List Int) (n1 : Nat) {d : List Int} {ls : List PVote} (h : crtR 4 (atT (al3 S n1) 4) d ls) : d = D0 ∧ ls = [(0, S 0), (2, S 2), (3, S 3)] := by
  have e : atT (al3 S n1) 4 = [(0, (D0, S 0)), (2, (D0, S 2)), (3, (D0, S 3))] := rfl
  have hv := vts_all [(0, S 0), (2, S 2), (3, S 3)] D0
  simp only [List.map_cons, List.map_nil] at hv
  have hc : crtD 4 (atT (al3 S n1) 4) = some D0 := by
    rw [e]
    unfold crtD
    rw [List.find?_cons_of_pos (by simp only [hv]; exact decide_eq_true (by show quo 4 ≤ 3; decide))]
    rfl
  rcases h with ⟨h1, _⟩ | ⟨h1, zs, h2, h3, h4⟩
  · rw [hc] at h1
    cases h1
  · rw [hc] at h1
    injection h1 with h1
    subst h1
    rw [e, hv] at h3
    have : zs = [(0, S 0), (2, S 2), (3, S 3)] := (srt_eq (by unfold Srt ks; simp) h2 h3.symm (by simp [ks])).symm
    rw [this] at h4
    exact ⟨rfl, h4⟩
/-- What stands between two calls of the example. -/
def AlS (S : Int → List Int) (w0 : World) (b m c : Nat) (w : World) (tl : PTl) : Prop := Tly w b m 4 0 tl ∧ RT Any w (.slice (some ⟨c, 0, none⟩) 32 32) D0 ∧ Tab w ∧ Below m w0 w ∧ (∀ k, Own1 m tl k → m ≤ k) ∧ S = sgC 4 D0
theorem als_made {S : Int → List Int} {w0 : World} {b m c : Nat} {w : World} {tl : PTl} (h : AlS S w0 b m c w tl) (i : Int) :
    Calls Tryd.prog 18 #[.int .i64 4, .slice (some ⟨c, 0, none⟩) 32 32, .int .i64 i] w fun e w' => ∃ a q, e = .returned (.agg #[.int .i64 i, .slice a (S i).length q]) ∧ AlS S w0 b m c w' tl ∧ Hid (Rd w' (.slice a (S i).length q) (S i)) := by
  obtain ⟨h1, h2, h3, h4, h5, h6⟩ := h
  refine (madeC_any w 4 _ D0 h2.1 (by decide) i h3).mono ?_
  rintro e w' ⟨v', rfl, f, bb⟩
  obtain ⟨a, q, rfl, _⟩ := f.form
  refine ⟨a, q, by rw [h6], ⟨h1.below bb, h2.mv (Mv.below bb), h3.below bb, h4.trans (bb.mono (Nat.le_of_lt h1.toM.map.lt)), h5, h6⟩, ?_⟩
  rw [h6]
  exact f.1
theorem als_add {S : Int → List Int} {w0 : World} {b m c : Nat} {w : World} {tl : PTl} (h : AlS S w0 b m c w tl) {i : Int} {a : Option Addr} {q : Nat} (hr : Hid (Rd w (.slice a (S i).length q) (S i))) :
    Calls Tryd.prog 9 #[.pointer (some ⟨b, 0, none⟩), .int .i64 4, .slice (some ⟨c, 0, none⟩) 32 32, .agg #[.int .i64 i, .slice a (S i).length q]] w fun e w' => ∃ nb, Hid (m ≤ nb) ∧ e = .returned (.bool (addB 4 0 tl 4 D0 (i, S i))) ∧ (∀ tl', addT 4 0 tl nb 4 D0 (i, S i) = tl' → (∀ k, Own1 m tl' k → m ≤ k) → AlS S w0 b m c w' tl') := by
  obtain ⟨h1, h2, h3, h4, h5, h6⟩ := h
  have hm := h1.toM.map.lt
  refine (addT_any w h1 4 _ D0 h2.1 i _ (S i) hr.out h3).mono ?_
  rintro e w' ⟨nb, hn, he, h7, g⟩
  refine ⟨nb, Nat.le_trans (Nat.le_of_lt hm) hn, he, fun tl' ht ho => ?_⟩
  subst ht
  exact ⟨h7, gs_keep (B := 0) h1 g h2, gs_tab h1 g h3, h4.trans (g.below (Nat.le_of_lt hm) h5), ho, h6⟩
theorem AlS.hS {S : Int → List Int} {w0 : World} {b m c : Nat} {w : World} {tl : PTl} (h : AlS S w0 b m c w tl) : ∀ i, 0 ≤ i → i < 4 → isR 4 4 D0 (i, S i) = true := fun i h0 h1 => by rw [h.2.2.2.2.2]; exact isR_al h0 h1
theorem als_cert {S : Int → List Int} {w0 : World} {b m c n1 : Nat} {w : World} (h : AlS S w0 b m c w (al3 S n1)) :
    Calls Tryd.prog 11 #[.pointer (some ⟨b, 0, none⟩), .int .i64 4] w fun e w' => ∃ x y lb lo lc, e = .returned (.tuple #[.slice x 32 y, .slice (some ⟨lb, lo, none⟩) 3 lc]) ∧ Hid (3 ≤ lc) ∧ w'.cell? ⟨lb, lo + 2, none⟩ = some (.int .i64 2) ∧ Below m w0 w' := by
  obtain ⟨h1, h2, h3, h4, h5, h6⟩ := h
  refine (certT_any w h1 4).mono ?_
  rintro e w' ⟨dv, lv, rfl, d, hd, ls, hl, hc, hb⟩
  obtain ⟨rfl, rfl⟩ := crt_al S n1 hc
  obtain ⟨x, y, rfl, _⟩ := hd.form
  obtain ⟨lb, lo, lc, rfl, h9, _, _, _, hat⟩ := hl.at (by simp)
  obtain ⟨r, hr2, hrng, sg, hrv, _⟩ := hat 1 _ rfl
  subst hrv
  refine ⟨x, y, lb, lo, lc, rfl, h9, ?_, h4.trans (hb.mono (Nat.le_of_lt h1.toM.map.lt))⟩
  exact hrng 0 _ rfl
set_option maxRecDepth 10000 in
set_option maxHeartbeats 4000000 in
theorem stableAlive_any (w : World) (hT : Tab w) : Calls Tryd.prog 7 #[] w fun e w' => e = .returned (.bool true) ∧ Below w.heap.size w w' := by
  have hmk := mk32
  go_enter Tryd.func7, Tryd.ntmps7
  go_upto_region 2 with (go_at_call 8; refine (newT_any w 4).mono ?_; rintro e w1 ⟨rfl, h1, b1⟩)
  have hT1 := hT.below b1
  have hl1 := h1.toM.map.lt
  clear hT
  generalize hm : w.heap.size = m at *
  have HMW := (show Hid (w.heap.size = m) from hm)
  generalize hbb : m + 1 = b at *
  go_upto_region 5 with fail
  have rd0 := Row.new w1 5 (bc D0)
  have b2 := below_alloc w1 (.cells (bc D0).toArray 5)
  obtain ⟨w2, hw2⟩ : ∃ u, u = w1.alloc (.cells (bc D0).toArray 5) := ⟨_, rfl⟩
  rw [← hw2] at rd0 b2 ⊢
  obtain ⟨S, hS⟩ : ∃ S : Int → List Int, S = sgC 4 D0 := ⟨_, rfl⟩
  have P2 : AlS S w b m w1.heap.size w2 [] := ⟨h1.below b2, ⟨rd_row (x := []) (by rw [List.append_nil]; exact rd0) D0_len D0_byt, fun _ _ _ => trivial⟩, hT1.below b2, b1.trans (b2.mono (Nat.le_of_lt hl1)), fun k hk => (by rcases hk with hk | hk; exact Nat.le_of_eq hk.symm; cases hk), hS⟩
  clear hw2 rd0 b2 h1 hT1 b1 hmk hS hl1 hbb hm
  generalize w1.heap.size = c at *
  go_upto_region 6 with (first
    | (go_at_call 9; refine hA3.mono ?_; rintro e w8 ⟨n8, hn8, rfl, F8⟩; have P8 := F8 _ (add_al3 P7.hS n4 n8).1 (own_al (Nat.le_refl _) hn4); clear F8 hA3 P7 r3)
    | (go_at_call 18; refine (als_made P6 3).mono ?_; rintro e w7 ⟨a3, q3, rfl, P7, r3⟩; have hA3 := als_add P7 r3; rw [(add_al3 P7.hS n4 0).2] at hA3; clear P6)
    | (go_at_call 9; refine hA2.mono ?_; rintro e w6 ⟨n6, hn6, rfl, F6⟩; have P6 := F6 _ (add_al2 P5.hS n4 n6).1 (own_al (Nat.le_refl _) hn4); clear F6 hA2 P5 r2)
    | (go_at_call 18; refine (als_made P4 2).mono ?_; rintro e w5 ⟨a2, q2, rfl, P5, r2⟩; have hA2 := als_add P5 r2; rw [(add_al2 P5.hS n4 0).2] at hA2; clear P4)
    | (go_at_call 9; refine hA0.mono ?_; rintro e w4 ⟨n4, hn4, rfl, F4⟩; have P4 := F4 _ (add_al1 P3.hS n4).1 (own_al (Nat.le_refl _) hn4); clear F4 hA0 P3 r0)
    | (go_at_call 18; refine (als_made P2 0).mono ?_; rintro e w3 ⟨a0, q0, rfl, P3, r0⟩; have hA0 := als_add P3 r0; rw [(add_al1 P3.hS 0).2] at hA0; clear P2))
  go_wp2_with (go_at_call 11; refine (als_cert P8).mono ?_; rintro e w9 ⟨x, y, lb, lo, lc, rfl, h9, hck, B9⟩)
  go_ret
  exact ⟨rfl, by rw [HMW.out]; exact B9⟩
end Go.Proofs.YtgpkngiakhdmhaaDoor
