/- The walks over package key: what is signed, signatures, digests. -/
import Derived.Test.YtgbfmccecnfooaaGreatDoorCRAR
import Derived.Test.YtgbfmccecnfooaaGreatDoorCRAP
import Derived.Lib.SlBytesConst
import Derived.Test.YtgbfmccecnfooaaGreatDoorCRAG
import Derived.Lib.ConvBytes
import Derived.Laws.AppendOwn
namespace Go.Proofs.YtgbfmccecnfooaaGreatDoor
section
open Go.RowKit Oct Sha
theorem rd_lit (w : World) (l : List Int) (e : TypeId) (fr : Nat × Nat) (hb : Byt l) (h : 0 < l.length) (hm : l.length ≤ 1000) : Rd (w.alloc (.cells (bc l).toArray e fr)) (.slice (some ⟨w.heap.size, 0, none⟩) l.length l.length) l := by
  refine ⟨hb, some ⟨w.heap.size, 0, none⟩, l.length, by rw [bc_len], by rw [bc_len]; exact Nat.le_refl _, by unfold maxLen; omega, fun e => (by cases e), fun a ha j u hu => ?_⟩
  cases ha
  rw [Addr.add_mid, cell_of_row _ _ _ (bc l).toArray e fr (heap_alloc_new w _), Nat.zero_add]
  simpa using hu
theorem byt_of {l : List Int} (h : l.all (fun x => decide (0 ≤ x) && decide (x ≤ 255)) = true) : Byt l := fun x hx => by
  have := List.all_eq_true.1 h x hx
  simpa using this
theorem run_cvt (u : World) (C : Array Value) (n c : Nat) : (convert 24 24 (.slice (some ⟨u.heap.size, 0, none⟩) n c)).run Tryz.prog (u.alloc (.cells C 5)) = .ok (.slice (some ⟨u.heap.size, 0, none⟩) n c) (u.alloc (.cells C 5 (C.size, C.size + 1))) :=
  Lib.run_convert_bytes_const u 24 5 C n c Tryz.underlying24 Tryz.underlying5
theorem shaL_byt (l : List Int) : Byt (shaL l) := out_byt _
end
section
open Go.RowKit Oct Sha
/-- A string's bytes. -/
def sL (s : ByteArray) : List Int := s.data.toList.map fun b => (b.toNat : Int)
theorem sL_len (s : ByteArray) : (sL s).length = s.size := by rw [sL, List.length_map]; rfl
theorem sL_byt (s : ByteArray) : Byt (sL s) := fun x hx => by
  obtain ⟨b, _, rfl⟩ := List.mem_map.1 hx
  have := b.toNat_lt
  omega
theorem rd_str (w : World) (s : ByteArray) (hs : s.size ≤ maxLen) : Rd (Lib.bytesWorld w 5 s) (.slice (some ⟨w.heap.size, 0, none⟩) s.size (grownCap w s.size 0 5)) (sL s) := by
  refine ⟨sL_byt s, some ⟨w.heap.size, 0, none⟩, grownCap w s.size 0 5, by rw [bc_len, sL_len], by rw [bc_len, sL_len]; exact grownCap_ge _ _ _ _, grownCap_le_maxLen _ _ _ _ hs, fun e => (by cases e), fun a ha j u hu => ?_⟩
  cases ha
  have hj : j < (sL s).length := by
    rcases Nat.lt_or_ge j (sL s).length with h | h
    · exact h
    · rw [List.getElem?_eq_none (by rw [bc_len]; exact h)] at hu; cases hu
  rw [bc_getD _ _ hj] at hu
  rw [sL_len] at hj
  rw [Addr.add_mid, Nat.zero_add, Lib.bytesWorld_cell w _ s j hj, ← hu]
  have hj' : j < s.data.toList.length := by simpa using hj
  simp [sL, List.getD, List.getElem?_map, List.getElem?_eq_getElem hj']
theorem below_str (w : World) (e : TypeId) (s : ByteArray) : Below w.heap.size w (Lib.bytesWorld w e s) :=
  ⟨rfl, rfl, rfl, by rw [Lib.bytesWorld_size]; omega, fun k hk => Lib.bytesWorld_at_old w e s k hk⟩
/-- '[]byte(s)'. -/
theorem wl_str {w : World} {ops : Array Oper} {rest : List Oper} {o : Oper} {a : Act} {Q : Exit → Act → World → Prop} (hgd : Region.wanted o (yielded ops a.tmps) = true) (x : Operand)
    (ho : o.op = .convert 9 24 x) (s : ByteArray) (hx : a.eval x = .string s) (hs : s.size ≤ maxLen)
    (h : ∀ v w', Rd w' v (sL s) → Fr w.heap.size v → Below w.heap.size w w' → wpList Tryz.prog ops Q rest (a.put o.dst v) w') : wpList Tryz.prog ops Q (o :: rest) a w := by
  refine wpList_wanted hgd fun K hK => ?_
  unfold Oper.wp
  simp [execOp, ho, hx, Lib.run_convert_string_bytes w 9 24 5 s Tryz.underlying9 Tryz.underlying24 Tryz.underlying5, Result.andThen]
  exact hK _ _ (h _ _ (rd_str w s hs) (fr_at _ _ _ _ (Nat.le_refl _)) (below_str w _ s))
theorem isKey_yes (w : World) (k : Int) (h0 : 0 ≤ k) (h1 : k ≤ 127) : Calls Tryz.prog 86 #[.int .i64 k] w fun e w' => e = .returned (.bool true) ∧ w' = w := by
  go_enter Tryz.func86, Tryz.ntmps86
  go_wp2_with fail
  go_ret
  exact ⟨rfl, rfl⟩
theorem isKey_no (w : World) (k : Int) (h : k < 0 ∨ 127 < k) : Calls Tryz.prog 86 #[.int .i64 k] w fun e w' => e = .returned (.bool false) ∧ w' = w := by
  rcases h with h | h
  · have h0 : decide (0 ≤ k) = false := by simpa using h
    go_enter Tryz.func86, Tryz.ntmps86
    go_wp2_with fail
    go_ret
    exact ⟨rfl, rfl⟩
  · have h1 : decide (k ≤ 127) = false := by simpa using h
    go_enter Tryz.func86, Tryz.ntmps86
    go_wp2_with fail
    go_ret
    exact ⟨rfl, rfl⟩
def repL (i : Int) : Int := if 0 ≤ i ∧ i ≤ 15 then i else -1
def cliL (j : Int) : Int := if 1 ≤ j ∧ j ≤ 27 then 100 + j else -1
theorem replica_any (w : World) (i : Int) : Calls Tryz.prog 57 #[.int .i64 i] w fun e w' => e = .returned (.int .i64 (repL i)) ∧ w' = w := by
  by_cases h0 : i < 0
  · rw [repL, if_neg (by omega)]
    go_enter Tryz.func57, Tryz.ntmps57
    go_wp2_with fail
    go_ret
    exact ⟨rfl, rfl⟩
  by_cases h1 : 15 < i
  · rw [repL, if_neg (by omega)]
    go_enter Tryz.func57, Tryz.ntmps57
    go_wp2_with fail
    go_ret
    exact ⟨rfl, rfl⟩
  · rw [repL, if_pos (by omega)]
    go_enter Tryz.func57, Tryz.ntmps57
    go_wp2_with fail
    go_ret
    exact ⟨rfl, rfl⟩
theorem client_any (w : World) (i : Int) : Calls Tryz.prog 125 #[.int .i64 i] w fun e w' => e = .returned (.int .i64 (cliL i)) ∧ w' = w := by
  by_cases h0 : i < 1
  · rw [cliL, if_neg (by omega)]
    go_enter Tryz.func125, Tryz.ntmps125
    go_wp2_with fail
    go_ret
    exact ⟨rfl, rfl⟩
  by_cases h1 : 27 < i
  · rw [cliL, if_neg (by omega)]
    go_enter Tryz.func125, Tryz.ntmps125
    go_wp2_with fail
    go_ret
    exact ⟨rfl, rfl⟩
  · rw [cliL, if_pos (by omega)]
    go_enter Tryz.func125, Tryz.ntmps125
    go_wp2_with fail
    go_ret
    exact ⟨rfl, rfl⟩
theorem refReplica_any (w : World) (i : Int) : Calls Tryz.prog 73 #[.int .i64 i] w fun e w' => e = .returned (.int .i64 (repL i)) ∧ w' = w := by
  by_cases h0 : 0 ≤ i
  · by_cases h1 : i ≤ 15
    · rw [repL, if_pos (by omega)]
      go_enter Tryz.func73, Tryz.ntmps73
      go_wp2_with fail
      go_ret
      exact ⟨rfl, rfl⟩
    · rw [repL, if_neg (by omega)]
      go_enter Tryz.func73, Tryz.ntmps73
      go_wp2_with fail
      go_ret
      exact ⟨rfl, rfl⟩
  · rw [repL, if_neg (by omega)]
    go_enter Tryz.func73, Tryz.ntmps73
    go_wp2_with fail
    go_ret
    exact ⟨rfl, rfl⟩
/-- bytes.Equal. -/
theorem equal_any (w : World) (u v : Value) (a b : List Int) (ha : Rd w u a) (hb : Rd w v b) :
    Calls Tryz.prog 87 #[u, v] w fun e w' => e = .returned (.bool (decide (a = b))) ∧ w' = w := by
  have h1 := run_str ha
  have h2 := run_str hb
  have h3 := str_eq ha.1 hb.1
  clear ha hb
  rw [← h3]
  clear h3
  go_enter Tryz.func87, Tryz.ntmps87
  go_wp2_with fail
  go_ret
  exact ⟨rfl, rfl⟩
end
section
open Go.RowKit Oct Sha
def signW : List Int := [115, 105, 103, 110]
/-- What a key signs. -/
def textL (k : Int) (d : List Int) (ll : List (List Int)) : List Int := if 0 ≤ k ∧ k ≤ 127 then packL ([signW, enc k, d] ++ ll) else []
def signL (k : Int) (d : List Int) (ll : List (List Int)) : List Int := if 0 ≤ k ∧ k ≤ 127 then shaL (packL ([signW, enc k, d] ++ ll)) else []
def verL (k : Int) (sig : List Int) (d : List Int) (ll : List (List Int)) : Bool := if 0 ≤ k ∧ k ≤ 127 then decide (sig = signL k d ll) else false
theorem textL_yes {k : Int} (d : List Int) (ll : List (List Int)) (h0 : 0 ≤ k) (h1 : k ≤ 127) : textL k d ll = packL ([signW, enc k, d] ++ ll) := if_pos ⟨h0, h1⟩
theorem textL_no {k : Int} (d : List Int) (ll : List (List Int)) (h : k < 0 ∨ 127 < k) : textL k d ll = [] := if_neg (by omega)
theorem signL_yes {k : Int} (d : List Int) (ll : List (List Int)) (h0 : 0 ≤ k) (h1 : k ≤ 127) : signL k d ll = shaL (packL ([signW, enc k, d] ++ ll)) := if_pos ⟨h0, h1⟩
theorem signL_no {k : Int} (d : List Int) (ll : List (List Int)) (h : k < 0 ∨ 127 < k) : signL k d ll = [] := if_neg (by omega)
theorem signL_byt (k : Int) (d : List Int) (ll : List (List Int)) : Byt (signL k d ll) := by
  unfold signL
  split
  · exact shaL_byt _
  · exact Byt.nil
theorem pack_pos (l : List Int) (ll : List (List Int)) : 0 < (packL (l :: ll)).length := by
  simp only [packL, List.length_append]
  have := (enc_len (l.length : Int)).1
  omega
theorem tot_three (k : Int) (d : List Int) (ll : List (List Int)) : tot ([signW, enc k, d] ++ ll) ≤ 17 + d.length + tot ll := by
  have := enc_len k
  simp only [tot_app, tot, signW, List.length_cons, List.length_nil]
  omega
theorem rds_one {w : World} : ∀ {vs : List Value} {ll : List (List Int)}, All2 (Rd w) vs ll → ∀ u ∈ vs, u.oneCell' = true
  | [], _, _, u, hu => by cases hu
  | v :: vs, [], h, _, _ => h.elim
  | v :: vs, l :: ll, h, u, hu => by
    rcases List.mem_cons.1 hu with e | e
    · subst e
      obtain ⟨ao, cap, rfl, _⟩ := h.1.form
      rfl
    · exact rds_one h.2 u e
theorem rds_below {w w' : World} {vs : List Value} {ll : List (List Int)} (h : All2 (Rd w) vs ll) (hb : Below w.heap.size w w') : All2 (Rd w') vs ll := h.mono fun _ _ h => h.below hb
theorem run_mkl (m n : Nat) (hn : m + n ≤ 1000000000) (u : World) : (Instr.makeSlice 115 (.int .i64 0) (.int .i64 ((m : Int) + (n : Int)))).run Tryz.prog u =
    .ok (.slice (some ⟨u.heap.size, 0, none⟩) 0 (m + n)) (u.alloc (.cells (madeCells #[.slice none 0 0] (m + n)) 24)) := by
  obtain ⟨i0, hi, hz0, hz1, hz2⟩ := info_parts Tryz.info23
  have h := run_make (P := Tryz.prog) u 115 24 i0 (.slice none 0 0) Tryz.underlying115 hi hz0 .i64 .i64 0 ((m : Int) + (n : Int)) (by omega) (by omega) (by rw [hz2]; omega) (by omega)
  rw [show ((m : Int) + (n : Int)).toNat = m + n by omega] at h
  simpa [hz1, Value.cells] using h
theorem own_madel (w : World) (n : Nat) (hn : n ≤ 1000000000) : Own (w.alloc (.cells (madeCells #[.slice none 0 0] n) 24)) 24 (.slice (some ⟨w.heap.size, 0, none⟩) 0 n) [] :=
  ⟨rfl, .inr ⟨w.heap.size, n, madeCells #[.slice none 0 0] n, rfl, Nat.zero_le _, heap_alloc_new w _, Nat.zero_le _, by unfold maxLen; omega, by simp [madeCells], rfl⟩⟩
set_option maxHeartbeats 400000 in
/-- key.packBehind. -/
theorem packBehind_any (w : World) (pv fv : Value) (lp lf : List (List Int)) (hp : Rdl w pv lp) (hf : Rdl w fv lf) (ht : tot (lf ++ lp) ≤ 10000000) :
    Calls Tryz.prog 158 #[pv, fv] w fun e w' => ∃ v', e = .returned v' ∧ Own w' 5 v' (bc (packL (lf ++ lp))) ∧ Fr w.heap.size v' ∧ Below w.heap.size w w' := by
  obtain ⟨vp, hvp, hap⟩ := hp
  obtain ⟨vf, hvf, haf⟩ := hf
  obtain ⟨ap, cp, rfl, hcp⟩ := hvp.form
  obtain ⟨af, cf, rfl, hcf⟩ := hvf.form
  have ht' := tot_app lf lp
  have l1 := len_tot lp
  have l2 := len_tot lf
  have l3 := Nat.le_of_eq hap.len
  have l4 := Nat.le_of_eq haf.len
  have l5 : vp.length ≤ 10000000 := by omega
  have l6 : vf.length ≤ 10000000 := by omega
  clear ht' l1 l2 l3 l4
  have hmk := run_mkl vf.length vp.length (by omega)
  obtain ⟨O, hO⟩ : ∃ O, O = Obj.cells (madeCells #[.slice none 0 0] (vf.length + vp.length)) 24 := ⟨_, rfl⟩
  have how : Own (w.alloc O) 24 (.slice (some ⟨w.heap.size, 0, none⟩) 0 (vf.length + vp.length)) [] := hO ▸ own_madel w _ (by omega)
  rw [← hO] at hmk
  clear hO
  have b0 := below_alloc w O
  have hfr : Fr w.heap.size (.slice (some ⟨w.heap.size, 0, none⟩) 0 (vf.length + vp.length)) := fr_at _ _ _ _ (Nat.le_refl _)
  go_enter Tryz.func158, Tryz.ntmps158
  go_wp2_with (first
    | (at_builtin; refine app_list rfl _ _ rfl _ [] rfl how _ vf rfl (hvf.below b0) (rds_one haf) (by simp only [List.length_nil]; omega) ?_; intro v1 w1 happ1; have b1 : Below w.heap.size w w1 := b0.trans (happ1.below hfr b0.size); have f1 := happ1.fr hfr b0.size)
    | (at_builtin; refine app_list rfl _ _ rfl v1 ([] ++ vf) rfl happ1.own _ vp rfl (hvp.below b1) (rds_one hap) (by simp only [List.nil_append]; omega) ?_; intro v2 w2 happ2; have b2 : Below w.heap.size w w2 := b1.trans (happ2.below f1 b1.size)))
  have ho2 := happ2.own
  rw [List.nil_append] at ho2
  refine (pack_any w2 v2 (lf ++ lp) ⟨vf ++ vp, ho2.rdv, All2.app (rds_below haf b2) (rds_below hap b2)⟩ ht).mono ?_
  rintro e w3 ⟨v3, rfl, ho3, hf3, hb3⟩
  go_wp2_with fail
  go_ret
  exact ⟨_, rfl, ho3, hf3.mono b2.size, below_and b2 (Nat.le_refl _) hb3⟩
set_option maxHeartbeats 400000 in
/-- key.Text. -/
theorem text_any (w : World) (k : Int) (s : ByteArray) (pv : Value) (ll : List (List Int)) (hp : Rdl w pv ll) (hs : s.size ≤ 4000000) (ht : tot ll ≤ 4000000) :
    Calls Tryz.prog 122 #[.int .i64 k, .string s, pv] w fun e w' => ∃ v', e = .returned v' ∧ Own w' 5 v' (bc (textL k (sL s) ll)) ∧ Fr w.heap.size v' ∧ Below w.heap.size w w' := by
  by_cases hk : k < 0 ∨ 127 < k
  · rw [textL_no _ _ hk]
    go_enter Tryz.func122, Tryz.ntmps122
    go_wp2_with fail
    refine (isKey_no w k hk).mono ?_
    rintro e w' ⟨rfl, rfl⟩
    go_wp2_with fail
    go_ret
    exact ⟨_, rfl, Own.nil _ _, Fr.nil _, Below.refl _ _⟩
  · have h0 : 0 ≤ k := by omega
    have h1 : k ≤ 127 := by omega
    clear hk
    rw [textL_yes _ _ h0 h1]
    have hI := int_any w k
    rw [errI_yes (by omega) (by omega), outI_yes (by omega) (by omega)] at hI
    have hcv := run_cvt
    have htt := tot_three k (sL s) ll
    rw [sL_len] at htt
    go_enter Tryz.func122, Tryz.ntmps122
    go_wp2_with fail
    refine (isKey_yes w k h0 h1).mono ?_
    rintro e w' ⟨rfl, rfl⟩
    go_wp2_with fail
    refine hI.mono ?_
    rintro e w1 ⟨v1, rfl, hown, hfr, hb1⟩
    clear hI
    have r1 := hown.rd (enc_byt k h0 (by omega))
    obtain ⟨a1, c1, rfl, hc1⟩ := r1.form
    have q1 := rd_lit w1 signW 5 (4, 5) (byt_of (by decide)) (by decide) (by decide)
    have b1 := below_alloc w1 (.cells (bc signW).toArray 5 (4, 5))
    go_wp2_with (refine wl_str (by rfl) _ (by rfl) s (by rfl) (by unfold maxLen; omega) ?_; intro v2 w2 hr2 hf2 hb2; obtain ⟨a2, c2, rfl, hc2⟩ := hr2.form)
    have B2 : Below w1.heap.size w1 w2 := below_and b1 (Nat.le_refl _) hb2
    have q2 := q1.below hb2
    have r2 := r1.below B2
    have b3 := below_alloc w2 (.cells #[.slice (some ⟨w1.heap.size, 0, none⟩) 4 4, .slice a1 (enc k).length c1, .slice a2 (sL s).length c2] 24)
    have B3 := below_and (below_and hb1 (Nat.le_refl _) B2) (Nat.le_refl _) b3
    refine (packBehind_any _ pv _ ll [signW, enc k, sL s] (hp.below B3) ⟨[.slice (some ⟨w1.heap.size, 0, none⟩) 4 4, .slice a1 (enc k).length c1, .slice a2 (sL s).length c2], rdv_els w2 [.slice (some ⟨w1.heap.size, 0, none⟩) 4 4, .slice a1 (enc k).length c1, .slice a2 (sL s).length c2] 24 (by simp) (by simp), q2.below b3, r2.below b3, hr2.below b3, trivial⟩ (by omega)).mono ?_
    rintro e w4 ⟨v4, rfl, ho4, hf4, hb4⟩
    go_wp2_with fail
    go_ret
    exact ⟨_, rfl, ho4, hf4.mono B3.size, below_and B3 (Nat.le_refl _) hb4⟩
theorem textL_byt (k : Int) (s : ByteArray) (ll : List (List Int)) (hb : Byts ll) (h : s.size + tot ll ≤ 100000000) : Byt (textL k (sL s) ll) := by
  by_cases hk : k < 0 ∨ 127 < k
  · rw [textL_no _ _ hk]; exact Byt.nil
  · rw [textL_yes _ _ (by omega) (by omega)]
    have htt := tot_three k (sL s) ll
    rw [sL_len] at htt
    refine packL_byt (fun l hl => ?_) (by omega)
    rcases List.mem_append.1 hl with h | h
    · simp only [List.mem_cons, List.not_mem_nil, or_false] at h
      rcases h with rfl | rfl | rfl
      · exact byt_of (by decide)
      · exact enc_byt k (by omega) (by omega)
      · exact sL_byt s
    · exact hb l h
set_option maxHeartbeats 400000 in
/-- key.Sign. -/
theorem sign_any (w : World) (k : Int) (s : ByteArray) (pv : Value) (ll : List (List Int)) (hp : Rdl w pv ll) (hs : s.size ≤ 4000000) (ht : tot ll ≤ 4000000) (hT : Tab w) :
    Calls Tryz.prog 88 #[.int .i64 k, .string s, pv] w fun e w' => ∃ v', e = .returned v' ∧ Own w' 5 v' (bc (signL k (sL s) ll)) ∧ Fr w.heap.size v' ∧ Below w.heap.size w w' := by
  have hbt := textL_byt k s ll hp.byts (by omega)
  have hX := text_any w k s pv ll hp hs ht
  by_cases hk : k < 0 ∨ 127 < k
  · rw [signL_no _ _ hk]
    rw [textL_no _ _ hk] at hX
    clear hbt
    go_enter Tryz.func88, Tryz.ntmps88
    go_wp2_with fail
    refine hX.mono ?_
    rintro e w1 ⟨v1, rfl, hown, hfr, hb1⟩
    obtain ⟨a1, c1, rfl, hc1⟩ := hown.form
    clear hX
    go_wp2_with fail
    go_ret
    exact ⟨_, rfl, Own.nil _ _, Fr.nil _, hb1⟩
  · have h0 : 0 ≤ k := by omega
    have h1 : k ≤ 127 := by omega
    clear hk
    rw [signL_yes _ _ h0 h1]
    rw [textL_yes _ _ h0 h1] at hX hbt
    have hpos : 0 < (packL ([signW, enc k, sL s] ++ ll)).length := pack_pos _ _
    have hple := packL_len ([signW, enc k, sL s] ++ ll)
    have htt := tot_three k (sL s) ll
    rw [sL_len] at htt
    generalize packL ([signW, enc k, sL s] ++ ll) = X at hX hbt hpos hple ⊢
    have hne : ((X.length : Int) == 0) = false := by rw [beq_eq_false_iff_ne]; omega
    have hlen : X.length ≤ 1000000000 := by omega
    clear htt hple
    go_enter Tryz.func88, Tryz.ntmps88
    go_wp2_with fail
    refine hX.mono ?_
    rintro e w1 ⟨v1, rfl, hown, hfr, hb1⟩
    clear hX
    have r1 := hown.rd hbt
    obtain ⟨a1, c1, rfl, hc1⟩ := r1.form
    go_wp2_with fail
    refine (sum_any w1 _ X r1 (hT.below hb1) (by omega)).mono ?_
    rintro e w2 ⟨v2, rfl, ho2, hf2, hb2⟩
    go_wp2_with fail
    go_ret
    exact ⟨_, rfl, ho2, hf2.mono hb1.size, below_and hb1 (Nat.le_refl _) hb2⟩
set_option maxHeartbeats 400000 in
/-- key.Verify. -/
theorem verify_any (w : World) (k : Int) (sv : Value) (sig : List Int) (s : ByteArray) (pv : Value) (ll : List (List Int)) (hsv : Rd w sv sig) (hp : Rdl w pv ll) (hs : s.size ≤ 4000000) (ht : tot ll ≤ 4000000) (hT : Tab w) :
    Calls Tryz.prog 56 #[.int .i64 k, sv, .string s, pv] w fun e w' => e = .returned (.bool (verL k sig (sL s) ll)) ∧ Below w.heap.size w w' := by
  by_cases hk : k < 0 ∨ 127 < k
  · rw [verL, if_neg (by omega)]
    go_enter Tryz.func56, Tryz.ntmps56
    go_wp2_with fail
    refine (isKey_no w k hk).mono ?_
    rintro e w' ⟨rfl, rfl⟩
    go_wp2_with fail
    go_ret
    exact ⟨rfl, Below.refl _ _⟩
  · have h0 : 0 ≤ k := by omega
    have h1 : k ≤ 127 := by omega
    clear hk
    rw [verL, if_pos ⟨h0, h1⟩]
    have hS := sign_any w k s pv ll hp hs ht hT
    have hbt := signL_byt k (sL s) ll
    generalize signL k (sL s) ll = X at hS hbt ⊢
    obtain ⟨d, hd⟩ : ∃ d, d = decide (sig = X) := ⟨_, rfl⟩
    rw [← hd]
    have HD := (show Hid (d = decide (sig = X)) from hd)
    clear hd
    go_enter Tryz.func56, Tryz.ntmps56
    go_wp2_with fail
    refine (isKey_yes w k h0 h1).mono ?_
    rintro e w' ⟨rfl, rfl⟩
    go_wp2_with fail
    refine hS.mono ?_
    rintro e w1 ⟨v1, rfl, ho1, hf1, hb1⟩
    clear hS
    have hE := equal_any w1 sv v1 sig X (hsv.below hb1) (ho1.rd hbt)
    rw [← HD.out] at hE
    go_wp2_with fail
    refine hE.mono ?_
    rintro e w2 ⟨rfl, rfl⟩
    clear hE
    go_wp2_with fail
    go_ret
    exact ⟨rfl, hb1⟩
end
end Go.Proofs.YtgbfmccecnfooaaGreatDoor
