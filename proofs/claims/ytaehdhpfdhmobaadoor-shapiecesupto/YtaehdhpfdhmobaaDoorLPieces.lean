/- catenarylaw02.ShaPieces: its walk. -/
import Derived.Test.YtaehdhpfdhmobaaDoorSAlive
namespace Go.Proofs.YtaehdhpfdhmobaaDoor
open Go.RowKit Oct Sha

/-- Same, of like texts. -/
theorem same_one (w : World) (u v : Value) (l : List Int) (ha : Rd w u l) (hb : Rd w v l) : Calls Tryd.prog 8 #[u, v] w fun e w' => e = .returned (.bool true) ∧ w' = w := by
  have := same_any w u v l l ha hb
  rwa [decide_eq_true rfl] at this
theorem flat_tot : ∀ ll : List (List Int), ll.flatten.length ≤ tot ll
  | [] => by simp
  | l :: ll => by
    have := flat_tot ll
    simp only [List.flatten_cons, List.length_append, tot]
    omega
theorem Own.bform {w : World} {e : TypeId} {v : Value} {l : List Int} (h : Own w e v (bc l)) : ∃ ao cap, v = .slice ao l.length cap ∧ cap ≤ maxLen := by
  have := h.form
  rwa [bc_len] at this
/-- A row of bytes, or of texts, is no Hash. -/
theorem Own.nohash {w : World} {e : TypeId} {v : Value} {xs : List Value} {b : Nat} {l : List Int} (h : Own w e v xs) (hh : Hs w b l) (he : e ≠ 43) : ∀ k, v.ownBlock = some k → k ≠ b := by
  rintro k hk rfl
  obtain ⟨rest, _, hr⟩ := hh
  rcases h.2 with ⟨rfl, _⟩ | ⟨g, _, cur, rfl, _, hg, _⟩
  · simp [Value.ownBlock] at hk
  · simp [Value.ownBlock] at hk
    subst hk
    unfold Row at hr
    rw [hg] at hr
    simp at hr
    exact he hr.2
theorem els_rd {w : World} : ∀ {us : List Value} {ll : List (List Int)}, Els w us ll → Byts ll → All2 (Rd w) us ll
  | [], [], _, _ => trivial
  | u :: us, l :: ll, h, hb => ⟨h.1.rd (hb l (by simp)), els_rd h.2 (fun x hx => hb x (by simp [hx]))⟩
  | [], _ :: _, h, _ => h.elim
  | _ :: _, [], h, _ => h.elim

theorem rd_none (w : World) : Rd w (.slice none 0 0) [] := ⟨byt_of rfl, (Own.nil w 0).rdv⟩
/-- What is written to texts that are listed in the call. -/
theorem write_lit (w : World) (b : Nat) (l : List Int) (vs : List Value) (ll : List (List Int)) (hh : Hs w b l) (hv0 : 0 < vs.length) (hv1 : vs.length ≤ 1000) (he : All2 (Rd w) vs ll)
    (hap : ∀ (i : Nat) (u : Value) (x : List Int), vs[i]? = some u → ll[i]? = some x → 0 < x.length → ∀ k, u.ownBlock = some k → k ≠ b) (hb0 : b ≠ 0) (ht : Tab w) (hlen : l.length + ll.flatten.length < 1152921504606846976) :
    Calls Tryd.prog 12 #[.pointer (some ⟨b, 0, none⟩), .slice (some ⟨w.heap.size, 0, none⟩) vs.length vs.length] (w.alloc (.cells vs.toArray 23)) fun e w' => e = .returned (.tuple #[]) ∧ Hs w' b (l ++ ll.flatten) ∧ w.grownBy w' (some b) := by
  have hal := below_alloc w (.cells vs.toArray 23)
  have hblt := hh.lt
  refine (write_any _ b l _ vs ll (hh.below hal) (rdv_els w vs 23 hv0 hv1) (he.mono fun _ _ h => h.below hal) (fun k hk => by simp [Value.ownBlock] at hk; omega) hap hb0 (ht.below hal) hlen).mono ?_
  rintro e w' ⟨h1, h2, h3⟩
  exact ⟨h1, h2, grown_trans (grown_of_below hal _) h3 (.inl rfl)⟩

set_option maxRecDepth 10000 in
set_option maxHeartbeats 2000000 in
theorem pieces_any (w : World) (v : Value) (ll : List (List Int)) (vm : Value) (m : List Int) (hrl : Rdl w v ll) (hrm : Rd w vm m) (htot : tot ll ≤ 1048576) (hlm : m.length ≤ 1048576) (ht : Tab w) :
    Calls Tryd.prog 5 #[v, vm] w fun e w' => e = .returned (.bool true) ∧ Below w.heap.size w w' := by
  have hbm := hrm.1
  have hbl := hrl.byts
  have le := Nat.le_refl w.heap.size
  have hpos := ht.pos
  have hft := flat_tot ll
  obtain ⟨vs, hv, he⟩ := hrl
  have hvl1 := Nat.le_of_eq he.len
  have hvl2 := Nat.le_of_eq he.len.symm
  have hlt := len_tot ll
  obtain ⟨pa, pcap, rfl, hpcap⟩ := hv.form
  go_enter Tryd.func5, Tryd.ntmps5
  go_wp2_with fail
  refine (alive_any w ht).mono ?_
  rintro e w1 ⟨rfl, hB1⟩
  go_wp2_with fail
  refine (new_any w1).mono ?_
  rintro e w2 ⟨bh, rfl, hbh, hh2, hb2⟩
  have hB2 := below_and hB1 le hb2
  have hz1 := hB1.size
  have hz2 := hh2.lt
  clear hB1
  go_wp2_with fail
  refine (new_any w2).mono ?_
  rintro e w3 ⟨bg, rfl, hbg, hg3, hb3⟩
  have hB3 := below_and hB2 le hb3
  have hh3 := hh2.below hb3
  have hal := below_alloc w3 (.cells #[] 5)
  have hB3' := below_and hB3 le hal
  have hh3' := hh3.below hal
  have hg3' := hg3.below hal
  have how := own_zero w3 5
  have hfw : Fr w.heap.size (.slice (some ⟨w3.heap.size, 0, none⟩) 0 0) := fr_at _ _ _ _ hB3.size
  clear hB2 hh2 hb2 hb3 hB3 hh3 hg3 hal
  have hne : bh ≠ bg := by omega
  have HE := (show Hid (All2 (Rd w) vs ll) from he)
  have HV := (show Hid (Rdv w (.slice pa vs.length pcap) vs) from hv)
  clear he hv
  go_wp2_with fail
  go_loopw [7, 23] (fun o i wr => ∃ k : Nat, k ≤ vs.length ∧ i = .int .i64 k ∧ Own wr 5 o (bc (ll.take k).flatten) ∧ Fr w.heap.size o ∧ Hs wr bh (ll.take k).flatten ∧ Hs wr bg [] ∧ Below w.heap.size w wr) (fun _ i _ => vs.length - (intOf i).toNat)
  case atStart => exact ⟨0, by omega, rfl, how, hfw, hh3', hg3', hB3'⟩
  case round =>
    clear how hfw hh3' hg3' hB3'
    obtain ⟨k, hk, rfl, hok, hfk, hhk, hgk, hbk⟩ := hrel
    have hzk := hbk.size
    have hfl := flat_le ll k
    by_cases hkv : k < vs.length
    · have hki : (k : Int) < (vs.length : Int) := by omega
      obtain ⟨u, hu⟩ : ∃ u, vs[k]? = some u := ⟨_, List.getElem?_eq_getElem hkv⟩
      obtain ⟨x, hx, hr⟩ := HE.out.nth hu
      obtain ⟨vb, off, cap', hveq, _, _, hvb, hcell⟩ := HV.out.at (by omega)
      injection hveq with hpa hpl hpc
      subst hpa
      have hcu : wr.cell? ⟨vb, off + k, none⟩ = some u := (hbk.cell (p := ⟨vb, off + k, none⟩) hvb).trans (hcell k u hu)
      have hrr : Rd wr u x := hr.below hbk
      have hsn := flat_snoc hx
      have hle : (ll.take k).flatten.length + x.length ≤ ll.flatten.length := by
        have := flat_le ll (k + 1)
        rw [hsn, List.length_append] at this
        exact this
      obtain ⟨Y, hY⟩ : ∃ Y, Y = (ll.take k).flatten := ⟨_, rfl⟩
      rw [← hY] at hok hhk hle hsn hfl
      have HSN := (show Hid ((ll.take (k + 1)).flatten = Y ++ x) from hsn)
      obtain ⟨ua, ucap, rfl, hucap⟩ := hrr.form
      have HUL : 0 < x.length → ∀ k, (Value.slice ua x.length ucap).ownBlock = some k → k < w.heap.size := fun h0 k hk => hr.lt (fun e => by rw [e] at h0; simp at h0) k hk
      have hYBx : Byt (Y ++ x) := by
        rw [hY]
        refine byt_app (fun z hz => ?_) hrr.1
        obtain ⟨q, hq, hzq⟩ := List.mem_flatten.1 hz
        exact hbl q (List.mem_of_mem_take hq) z hzq
      clear hu hr hx hsn hY hpl hpc hcell
      have hYx : Y.length + x.length ≤ 1048576 := by omega
      have HUB := (show Hid (0 < x.length → ∀ k, (Value.slice ua x.length ucap).ownBlock = some k → k < w.heap.size) from fun h0 k hk => HUL h0 k hk)
      have hYB : Byt (Y ++ x) := hYBx
      go_wp2_with (at_builtin; refine app_copy rfl _ _ rfl rfl _ x rfl hrr (by omega) ?_; intro o1 w4 hown1 hfr1 hb4; obtain ⟨oa, oc, rfl, hoc⟩ := hown1.bform)
      have hB4 := below_and hbk le hb4
      have hh4 := hhk.below hb4
      have hg4 := hgk.below hb4
      have hok4 := hok.below hb4
      have hrr4 := hrr.below hb4
      have HWR := (show Hid (∀ _ : Unit, _) from fun _ => write_lit w4 bh Y [_] [x] hh4 (by simp) (by simp) ⟨hown1.rd hrr.1, trivial⟩ (fun i u y hi hy _ => by
        cases i with
        | zero => simp at hi hy; subst hi hy; exact hown1.nohash hh4 (by decide)
        | succ i => simp at hi) (by omega) (ht.below hB4) (by simp; omega))
      clear hb4 hbk hhk hgk hok hrr
      refine (HWR.out ()).mono ?_
      rintro e w5 ⟨rfl, hh5, hgr5⟩
      rw [List.flatten_singleton] at hh5
      have hB5 : Below w.heap.size w w5 := hB4.trans (grown_below hgr5 hB4.size (fun k hk => by cases hk; omega))
      have hg5 := hg4.grown hgr5 (by simp; omega)
      have hok5 := hok4.grown hgr5 (fun k hk => by cases hk; exact fun e => hok4.nohash hh4 (by decide) _ e rfl)
      have hrr5 := hrr4.grown hgr5 (fun hx0 k hk => by
        cases hk
        intro e
        have h1 := (HUB.out (List.length_pos_iff.2 hx0)) _ e
        omega)
      clear hB4 hh4 hg4 hok4 hrr4 hown1 hfr1 HWR hgr5
      by_cases h50 : (vs.length : Int) < 50
      · go_wp2_with (at_builtin; refine app_bytes rfl _ _ rfl _ Y rfl hok5 _ x rfl hrr5.2 (by omega) ?_; intro o2 w6 happ6)
        have HOW := (show Hid (Own w6 5 o2 (bc (ll.take (k + 1)).flatten)) by
          show Own _ _ _ _
          rw [HSN.out]
          exact happ6.own)
        have hown6 := happ6.own
        have hf6 := happ6.fr hfk hB5.size
        have hB6 : Below w.heap.size w w6 := hB5.trans (happ6.below hfk hB5.size)
        have hh6 := hh5.grown happ6.grown (fun e => hok5.nohash hh5 (by decide) _ e rfl)
        have hg6 := hg5.grown happ6.grown (fun e => hok5.nohash hg5 (by decide) _ e rfl)
        have hYb : Byt (Y ++ x) := hYB
        clear happ6 hok5 hrr5 hB5 hh5 hg5
        refine (hsum_any w6 bh (Y ++ x) hh6 (ht.below hB6) (by rw [List.length_append]; omega)).mono ?_
        rintro e w7 ⟨r1, rfl, hr1, hf1, hb7⟩
        have hB7 := below_and hB6 le hb7
        have hown7 := hown6.below hb7
        have hh7 := hh6.below hb7
        have hg7 := hg6.below hb7
        clear hB6 hown6 hh6 hg6 hb7 hf1 HOW
        go_wp2_with fail
        refine (sum_any w7 o2 (Y ++ x) (hown7.rd hYb) (ht.below hB7) (by rw [List.length_append]; omega)).mono ?_
        rintro e w8 ⟨r2, rfl, hr2, hf2, hb8⟩
        have hB8 := below_and hB7 le hb8
        have hh8 := hh7.below hb8
        have hg8 := hg7.below hb8
        have hr18 := hr1.below hb8
        have HOW := (show Hid (Own w8 5 o2 (bc (ll.take (k + 1)).flatten)) by
          show Own _ _ _ _
          rw [HSN.out]
          exact hown7.below hb8)
        have HHS := (show Hid (Hs w8 bh (ll.take (k + 1)).flatten) by
          show Hs _ _ _
          rw [HSN.out]
          exact hh8)
        clear hB7 hown7 hh7 hg7 hb8 hf2 hr1 hh8
        go_wp2_with fail
        refine (same_one w8 r1 r2 _ (hr18.rd (shaL_byt _)) (hr2.rd (shaL_byt _))).mono ?_
        rintro e w8' ⟨rfl, rfl⟩
        clear hr18 hr2
        go_wp2_with fail
        go_roundw
        case rel => exact ⟨k + 1, by omega, by go_num, HOW, hf6, HHS, hg8, hB8⟩
        case measure => simp [intOf]; omega
      · go_wp2_with (at_builtin; refine app_bytes rfl _ _ rfl _ Y rfl hok5 _ x rfl hrr5.2 (by omega) ?_; intro o2 w6 happ6)
        have HOW := (show Hid (Own w6 5 o2 (bc (ll.take (k + 1)).flatten)) by
          show Own _ _ _ _
          rw [HSN.out]
          exact happ6.own)
        have hown6 := happ6.own
        have hf6 := happ6.fr hfk hB5.size
        have hB6 : Below w.heap.size w w6 := hB5.trans (happ6.below hfk hB5.size)
        have hh6 := hh5.grown happ6.grown (fun e => hok5.nohash hh5 (by decide) _ e rfl)
        have hg6 := hg5.grown happ6.grown (fun e => hok5.nohash hg5 (by decide) _ e rfl)
        have hYb : Byt (Y ++ x) := hYB
        clear happ6 hok5 hrr5 hB5 hh5 hg5
        have HHS := (show Hid (Hs w6 bh (ll.take (k + 1)).flatten) by
          show Hs _ _ _
          rw [HSN.out]
          exact hh6)
        clear hh6 hown6 hYb
        go_roundw
        case rel => exact ⟨k + 1, by omega, by go_num, HOW, hf6, HHS, hg6, hB6⟩
        case measure => simp [intOf]; omega
    · have hki : ¬ (k : Int) < (vs.length : Int) := by omega
      have hkk : (ll.take k).flatten = ll.flatten := by rw [List.take_of_length_le (by omega)]
      rw [hkk] at hok hhk
      obtain ⟨X, hX⟩ : ∃ X, X = ll.flatten := ⟨_, rfl⟩
      have hXb : Byt X := by
        rw [hX]
        intro z hz
        obtain ⟨q, hq, hzq⟩ := List.mem_flatten.1 hz
        exact hbl q hq z hzq
      have hXl : X.length ≤ 1048576 := by rw [hX]; omega
      rw [← hX] at hok hhk
      have HX := (show Hid (X = ll.flatten) from hX)
      have hrl : Rdl wr (.slice pa vs.length pcap) ll := ⟨vs, HV.out.below hbk, HE.out.mono fun _ _ h => h.below hbk⟩
      clear hX hkk
      go_wp2_with fail
      refine (copy_any wr _ ll hrl (by omega)).mono ?_
      rintro e w7 ⟨v7, us, rfl, hv7, hels, hfr7, hb7⟩
      have hB7 := below_and hbk le hb7
      have hh7 := hhk.below hb7
      have hg7 := hgk.below hb7
      have hok7 := hok.below hb7
      clear hhk hgk hok hrl hb7
      go_wp2_with fail
      refine (write_any w7 bg [] v7 us ll hg7 hv7.rdv (els_rd hels hbl) (hv7.nohash hg7 (by decide)) ?_ (by omega) (ht.below hB7) (by rw [← HX.out]; simp; omega)).mono ?_
      · intro i u y hi hy _
        have hu : Own w7 5 u (bc y) := hels.get hi hy
        exact hu.nohash hg7 (by decide)
      rintro e w8 ⟨rfl, hg8, hgr8⟩
      rw [List.nil_append, ← HX.out] at hg8
      have hB8 : Below w.heap.size w w8 := hB7.trans (grown_below hgr8 hB7.size (fun k hk => by cases hk; omega))
      have hh8 := hh7.grown hgr8 (by simp; omega)
      have hok8 := hok7.grown hgr8 (fun k hk => by cases hk; exact fun e => hok7.nohash hg7 (by decide) _ e rfl)
      have hrm8 := hrm.below hB8
      clear hB7 hh7 hg7 hok7 hgr8 hv7 hels hfr7
      go_wp2_with (at_builtin; refine app_copy rfl _ _ rfl rfl vm m rfl hrm8 (by omega) ?_; intro o1 w9 hown1 hfr1 hb9; obtain ⟨oa, oc, rfl, hoc⟩ := hown1.bform)
      have hB9 := below_and hB8 le hb9
      have hh9 := hh8.below hb9
      have hg9 := hg8.below hb9
      have hok9 := hok8.below hb9
      have HWR := (show Hid (∀ _ : Unit, _) from fun _ => write_lit w9 bh X [_, .slice none 0 0] [m, []] hh9 (by simp) (by simp) ⟨hown1.rd hbm, rd_none w9, trivial⟩ (fun i u y hi hy hy0 => by
        cases i with
        | zero => simp at hi hy; subst hi hy; exact hown1.nohash hh9 (by decide)
        | succ i =>
          cases i with
          | zero => simp at hy; subst hy; simp at hy0
          | succ i => simp at hi) (by omega) (ht.below hB9) (by simp; omega))
      clear hB8 hh8 hg8 hok8 hrm8 hb9
      refine (HWR.out ()).mono ?_
      rintro e w10 ⟨rfl, hh10, hgr10⟩
      rw [show [m, []].flatten = m by simp] at hh10
      have hB10 : Below w.heap.size w w10 := hB9.trans (grown_below hgr10 hB9.size (fun k hk => by cases hk; omega))
      have hg10 := hg9.grown hgr10 (by simp; omega)
      have hok10 := hok9.grown hgr10 (fun k hk => by cases hk; exact fun e => hok9.nohash hh9 (by decide) _ e rfl)
      have hrm10 := hrm.below hB10
      clear hB9 hh9 hg9 hok9 hgr10 HWR hown1 hfr1
      go_wp2_with (at_builtin; refine app_copy rfl _ _ rfl rfl vm m rfl hrm10 (by omega) ?_; intro o2 w11 hown2 hfr2 hb11; obtain ⟨oa2, oc2, rfl, hoc2⟩ := hown2.bform)
      have hB11 := below_and hB10 le hb11
      have hh11 := hh10.below hb11
      have hg11 := hg10.below hb11
      have hok11 := hok10.below hb11
      have HWR := (show Hid (∀ _ : Unit, _) from fun _ => write_lit w11 bg X [.slice none 0 0, _] [[], m] hg11 (by simp) (by simp) ⟨rd_none w11, hown2.rd hbm, trivial⟩ (fun i u y hi hy hy0 => by
        cases i with
        | zero => simp at hy; subst hy; simp at hy0
        | succ i =>
          cases i with
          | zero => simp at hi hy; subst hi hy; exact hown2.nohash hg11 (by decide)
          | succ i => simp at hi) (by omega) (ht.below hB11) (by simp; omega))
      clear hB10 hh10 hg10 hok10 hrm10 hb11
      refine (HWR.out ()).mono ?_
      rintro e w12 ⟨rfl, hg12, hgr12⟩
      rw [show [[], m].flatten = m by simp] at hg12
      have hB12 : Below w.heap.size w w12 := hB11.trans (grown_below hgr12 hB11.size (fun k hk => by cases hk; omega))
      have hh12 := hh11.grown hgr12 (by simp; omega)
      have hok12 := hok11.grown hgr12 (fun k hk => by cases hk; exact fun e => hok11.nohash hg11 (by decide) _ e rfl)
      have hrm12 := hrm.below hB12
      clear hB11 hh11 hg11 hok11 hgr12 HWR hown2 hfr2
      go_wp2_with (at_builtin; refine app_bytes rfl _ _ rfl _ X rfl hok12 _ m rfl hrm12.2 (by omega) ?_; intro o3 w13 happ13)
      have hown13 := happ13.own
      have hB13 : Below w.heap.size w w13 := hB12.trans (happ13.below hfk hB12.size)
      have hh13 := hh12.grown happ13.grown (fun e => hok12.nohash hh12 (by decide) _ e rfl)
      have hg13 := hg12.grown happ13.grown (fun e => hok12.nohash hg12 (by decide) _ e rfl)
      have hXm : Byt (X ++ m) := byt_app hXb hbm
      have hXml : (X ++ m).length ≤ 2097152 := by rw [List.length_append]; omega
      clear happ13 hok12 hrm12 hB12 hh12 hg12
      obtain ⟨Z, hZ⟩ : ∃ Z, Z = X ++ m := ⟨_, rfl⟩
      rw [← hZ] at hown13 hh13 hg13 hXm hXml
      clear hZ
      refine (hsum_any w13 bh Z hh13 (ht.below hB13) (by omega)).mono ?_
      rintro e w14 ⟨r1, rfl, hr1, hf1, hb14⟩
      have hB14 := below_and hB13 le hb14
      have hown14 := hown13.below hb14
      have hg14 := hg13.below hb14
      clear hB13 hown13 hh13 hg13 hb14 hf1
      go_wp2_with fail
      refine (sum_any w14 o3 Z (hown14.rd hXm) (ht.below hB14) (by omega)).mono ?_
      rintro e w15 ⟨r2, rfl, hr2, hf2, hb15⟩
      have hB15 := below_and hB14 le hb15
      have hown15 := hown14.below hb15
      have hg15 := hg14.below hb15
      have hr15 := hr1.below hb15
      clear hB14 hown14 hg14 hb15 hf2 hr1
      go_wp2_with fail
      refine (same_one w15 r1 r2 _ (hr15.rd (shaL_byt _)) (hr2.rd (shaL_byt _))).mono ?_
      rintro e w15' ⟨rfl, rfl⟩
      clear hr15 hr2
      go_wp2_with fail
      refine (hsum_any _ bg Z hg15 (ht.below hB15) (by omega)).mono ?_
      rintro e w16 ⟨r3, rfl, hr3, hf3, hb16⟩
      have hB16 := below_and hB15 le hb16
      have hown16 := hown15.below hb16
      clear hB15 hown15 hg15 hb16 hf3
      go_wp2_with fail
      refine (sum_any w16 o3 Z (hown16.rd hXm) (ht.below hB16) (by omega)).mono ?_
      rintro e w17 ⟨r4, rfl, hr4, hf4, hb17⟩
      have hB17 := below_and hB16 le hb17
      have hr17 := hr3.below hb17
      clear hB16 hown16 hb17 hf4 hr3
      go_wp2_with fail
      refine (same_one w17 r3 r4 _ (hr17.rd (shaL_byt _)) (hr4.rd (shaL_byt _))).mono ?_
      rintro e w17' ⟨rfl, rfl⟩
      go_wp2_with fail
      go_ret
      exact ⟨rfl, hB17⟩
end Go.Proofs.YtaehdhpfdhmobaaDoor
