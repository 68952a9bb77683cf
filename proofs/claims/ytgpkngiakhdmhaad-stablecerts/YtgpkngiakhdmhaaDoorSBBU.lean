/- slices.SortStableFunc over votes; vote.Sort. -/
import Derived.Test.YtgpkngiakhdmhaaDoorSBBT
import Derived.Test.YtgpkngiakhdmhaaDoorSBBK
set_option linter.unusedSimpArgs false
set_option linter.unusedVariables false
namespace Go.Proofs.YtgpkngiakhdmhaaDoor
section
open Go.RowKit Oct Stb
/-- Full blocks, each sorted. -/
def FB (bs : Nat) (bl : List (List VC)) : Prop := ∀ x ∈ bl, x.length = bs ∧ Srt kv x
theorem FB.len {bs : Nat} : ∀ {bl : List (List VC)}, FB bs bl → bl.flatten.length = bl.length * bs
  | [], _ => by simp
  | x :: bl, h => by
    rw [List.flatten_cons, List.length_append, (h x (by simp)).1, FB.len (fun y hy => h y (by simp [hy])), List.length_cons, Nat.add_mul]
    omega
theorem FB.snoc {bs : Nat} {bl : List (List VC)} {x : List VC} (h : FB bs bl) (hx : x.length = bs ∧ Srt kv x) : FB bs (bl ++ [x]) := fun y hy => by
  rcases List.mem_append.1 hy with hy | hy
  · exact h y hy
  · rw [List.mem_singleton.1 hy]; exact hx
theorem FB.two {bs t : Nat} {bl : List (List VC)} (h : FB bs bl) (ht : t < bs) (h2 : 2 * bs ≤ bl.flatten.length + t) : ∃ X Y bl', bl = X :: Y :: bl' := by
  rw [h.len] at h2
  rcases bl with _ | ⟨X, _ | ⟨Y, bl'⟩⟩
  · simp at h2; omega
  · simp at h2; omega
  · exact ⟨X, Y, bl', rfl⟩
theorem FB.one {bs t : Nat} {bl : List (List VC)} (h : FB bs bl) (ht : t < bs) (h1 : bs < bl.flatten.length + t) (h2 : bl.flatten.length + t < 2 * bs) : ∃ X, bl = [X] := by
  rw [h.len] at h1 h2
  rcases bl with _ | ⟨X, _ | ⟨Y, bl'⟩⟩
  · simp at h1; omega
  · exact ⟨X, rfl⟩
  · rw [List.length_cons, List.length_cons, Nat.add_mul, Nat.add_mul] at h2; omega
theorem FB.few {bs : Nat} {bl : List (List VC)} {t : List VC} (h : FB bs bl) (ht : t.length < bs) (hs : Srt kv t) (h2 : bl.flatten.length + t.length ≤ bs) : Srt kv (bl.flatten ++ t) := by
  have hl := h.len
  rcases bl with _ | ⟨X, _ | ⟨Y, bl'⟩⟩
  · simpa using hs
  · obtain ⟨x1, x2⟩ := h X (by simp)
    rw [hl] at h2
    simp at h2
    obtain rfl : t = [] := List.eq_nil_of_length_eq_zero (by omega)
    simpa using x2
  · rw [hl, List.length_cons, List.length_cons, Nat.add_mul, Nat.add_mul] at h2; omega
theorem flat_snocV (bl : List (List VC)) (x : List VC) : (bl ++ [x]).flatten = bl.flatten ++ x := by simp
/-- The same votes lie there. -/
theorem Stb.Sam.is {L C : List VC} (h : Sam kv L C) (ho : ∀ z ∈ L, IsS z.1) : ∀ z ∈ C, IsS z.1 := fun z hz => ho z (h.mem.1 hz)
set_option maxRecDepth 10000 in
set_option maxHeartbeats 4000000 in
theorem stable_any (w : World) (g n cap : Nat) (L : List VC) (rest : List Value) (hR : Row w g 28 (vfl L ++ rest)) (hn : L.length = n) (hc : n ≤ cap) (hm : cap ≤ maxLen) (hn48 : n ≤ 281474976710656) (hone : ∀ z ∈ L, IsS z.1) :
    Calls Tryd.prog 42 #[.slice (some ⟨g, 0, none⟩) n cap, .int .i64 n, .func (.func 33) #[] #[]] w fun e w' => e = .returned (.tuple #[]) ∧ (∃ C, Srt kv C ∧ Sam kv L C ∧ Row w' g 28 (vfl C ++ rest)) ∧ w.grownBy w' (some g) := by
  have HO := (show Hid (∀ z ∈ L, IsS z.1) from hone)
  have HL := (show Hid (L.length = n) from hn)
  have HR := (show Hid (∃ (bl : List (List VC)) (r : List VC), FB 20 bl ∧ bl.length * 20 = 0 ∧ Sam kv L (bl.flatten ++ r) ∧ Row w g 28 (vfl (bl.flatten ++ r) ++ rest)) from ⟨[], L, (fun x hx => by cases hx), rfl, Sam.refl _, hR⟩)
  clear hR hn hone
  go_enter Tryd.func42, Tryd.ntmps42
  go_wp2_with fail
  go_loopw [7, 8] (fun i j wr => ∃ a : Nat, i = .int .i64 a ∧ j = .int .i64 ((a : Int) + 20) ∧ a ≤ n ∧ Hid (∃ (bl : List (List VC)) (r : List VC), FB 20 bl ∧ bl.length * 20 = a ∧ Sam kv L (bl.flatten ++ r) ∧ Row wr g 28 (vfl (bl.flatten ++ r) ++ rest)) ∧ w.grownBy wr (some g)) (fun i _ _ => n - (intOf i).toNat)
  case atStart => exact ⟨0, rfl, rfl, Nat.zero_le _, HR, grown_refl _ _⟩
  case round =>
    clear HR
    obtain ⟨a, rfl, rfl, han, hS, hG⟩ := hrel
    obtain ⟨bl, r, f1, f2, f3, f4⟩ := hS.out
    have hfl := f1.len
    have hrl : bl.flatten.length + r.length = n := by have := f3.1; rw [List.length_append, HL.out] at this; exact this
    by_cases hb : a + 20 ≤ n
    · have hbi : (a : Int) + 20 ≤ (n : Int) := by omega
      obtain ⟨b, hbb⟩ : ∃ b, b = a + 20 := ⟨_, rfl⟩
      have hI := insSort_any wr g n cap a b bl.flatten (r.take 20) (r.drop 20) rest (by omega) (by rw [List.length_take]; omega) (by rw [List.append_assoc, List.take_append_drop]; exact f4) (by rw [List.append_assoc, List.take_append_drop, List.length_append]; exact hrl) hc hm hn48 (by rw [List.append_assoc, List.take_append_drop]; exact f3.is HO.out)
      have NX := (show Hid (∀ (A' : List VC) (u : World), Srt kv A' → Sam kv (r.take 20) A' → Row u g 28 (vfl (bl.flatten ++ A' ++ r.drop 20) ++ rest) → ∃ (bl : List (List VC)) (r : List VC), FB 20 bl ∧ bl.length * 20 = a + 20 ∧ Sam kv L (bl.flatten ++ r) ∧ Row u g 28 (vfl (bl.flatten ++ r) ++ rest)) from fun A' u h1 h2 h3 => ⟨bl ++ [A'], r.drop 20, f1.snoc ⟨by rw [h2.1, List.length_take]; omega, h1⟩, by simp; omega, by
        rw [flat_snocV]
        have s := ((Sam.refl (k := kv) bl.flatten).app h2).app (Sam.refl (k := kv) (r.drop 20))
        rw [List.append_assoc, List.take_append_drop] at s
        exact f3.trans s, by rw [flat_snocV]; exact h3⟩)
      have wb : IntKind.i64.wrap ((a : Int) + 20 + 20) = (a : Int) + 20 + 20 := IntWalk.i64_in _ (by omega)
      have hIb : Calls Tryd.prog 61 #[.slice (some ⟨g, 0, none⟩) n cap, .int .i64 a, .int .i64 ((a : Int) + 20), .func (.func 33) #[] #[]] wr fun e w' => e = .returned (.tuple #[]) ∧ (∃ A', Srt kv A' ∧ Sam kv (r.take 20) A' ∧ Row w' g 28 (vfl (bl.flatten ++ A' ++ r.drop 20) ++ rest)) ∧ wr.grownBy w' (some g) := by
        rw [hbb] at hI
        exact hI
      clear hbb hI f1 f2 f3 f4 hfl hrl hS
      go_wp2_with (go_at_call 61; refine hIb.mono ?_; rintro e u1 ⟨rfl, ⟨A', h1, h2, h3⟩, k1⟩)
      go_roundw
      case rel => exact ⟨a + 20, by go_num, by go_num, hb, NX.out A' u1 h1 h2 h3, grown_trans hG k1 (.inl rfl)⟩
      case measure => simp [intOf]; omega
    · have hbi : decide ((a : Int) + 20 ≤ (n : Int)) = false := by simp; omega
      have hI := insSort_any wr g n cap a n bl.flatten r [] rest (by omega) (by omega) (by rw [List.append_nil]; exact f4) (by rw [List.append_nil, List.length_append]; exact hrl) hc hm hn48 (by rw [List.append_nil]; exact f3.is HO.out)
      have NX := (show Hid (∀ (A' : List VC) (u : World), Srt kv A' → Sam kv r A' → Row u g 28 (vfl (bl.flatten ++ A' ++ []) ++ rest) → ∃ (bl : List (List VC)) (t : List VC), FB 20 bl ∧ t.length < 20 ∧ Srt kv t ∧ Sam kv L (bl.flatten ++ t) ∧ Row u g 28 (vfl (bl.flatten ++ t) ++ rest)) from fun A' u h1 h2 h3 => ⟨bl, A', f1, by rw [h2.1]; omega, h1, f3.trans ((Sam.refl _).app h2), by rw [List.append_nil] at h3; exact h3⟩)
      clear f1 f2 f3 f4 hfl hrl hS
      go_upto_region 7 with (go_at_call 61; refine hI.mono ?_; rintro e u1 ⟨rfl, ⟨A', h1, h2, h3⟩, k1⟩)
      have ST := (show Hid (∃ (bl : List (List VC)) (t : List VC), FB 20 bl ∧ t.length < 20 ∧ Srt kv t ∧ Sam kv L (bl.flatten ++ t) ∧ Row u1 g 28 (vfl (bl.flatten ++ t) ++ rest)) from NX.out A' u1 h1 h2 h3)
      have hG1 := grown_trans hG k1 (.inl rfl)
      clear NX h1 h2 h3 k1 hG hI
      go_wp2_with fail
      go_loopw [6] (fun z wr => ∃ bs : Nat, z = .int .i64 bs ∧ 20 ≤ bs ∧ bs ≤ 2 * n + 20 ∧ Hid (∃ (bl : List (List VC)) (t : List VC), FB bs bl ∧ t.length < bs ∧ Srt kv t ∧ Sam kv L (bl.flatten ++ t) ∧ Row wr g 28 (vfl (bl.flatten ++ t) ++ rest)) ∧ w.grownBy wr (some g)) (fun z _ => n - (intOf z).toNat)
      case atStart => exact ⟨20, rfl, Nat.le_refl _, by omega, ST, hG1⟩
      case round =>
        clear ST hG1
        obtain ⟨bs, rfl, hbs, hbn, hS, hG⟩ := hrel
        by_cases hlt : bs < n
        · have hlti : (bs : Int) < (n : Int) := by omega
          have w2 : IntKind.i64.wrap (2 * (bs : Int)) = 2 * (bs : Int) := IntWalk.i64_in _ (by omega)
          have w2' : IntKind.i64.wrap ((bs : Int) * 2) = 2 * (bs : Int) := by rw [Int.mul_comm]; exact w2
          have ST := (show Hid (∃ (cl bl : List (List VC)) (t : List VC), FB (2 * bs) cl ∧ FB bs bl ∧ cl.length * (2 * bs) = 0 ∧ t.length < bs ∧ Srt kv t ∧ Sam kv L (cl.flatten ++ (bl.flatten ++ t)) ∧ Row wr g 28 (vfl (cl.flatten ++ (bl.flatten ++ t)) ++ rest)) from by
            obtain ⟨bl, t, f1, f2, f3, f4, f5⟩ := hS.out
            exact ⟨[], bl, t, (fun x hx => by cases hx), f1, by simp, f2, f3, f4, f5⟩)
          clear hS
          go_wp2_with fail
          go_loopw [7, 8] (fun i j wx => ∃ a : Nat, i = .int .i64 a ∧ j = .int .i64 ((a : Int) + 2 * (bs : Int)) ∧ a ≤ n ∧ Hid (∃ (cl bl : List (List VC)) (t : List VC), FB (2 * bs) cl ∧ FB bs bl ∧ cl.length * (2 * bs) = a ∧ t.length < bs ∧ Srt kv t ∧ Sam kv L (cl.flatten ++ (bl.flatten ++ t)) ∧ Row wx g 28 (vfl (cl.flatten ++ (bl.flatten ++ t)) ++ rest)) ∧ w.grownBy wx (some g)) (fun i _ _ => n - (intOf i).toNat)
          case atStart => exact ⟨0, rfl, by go_num, Nat.zero_le _, ST, hG⟩
          case round =>
            clear ST hG
            obtain ⟨a, rfl, rfl, han, hS, hG⟩ := hrel
            obtain ⟨cl, bl, t, f1, f2, f3, f4, f5, f6, f7⟩ := hS.out
            have hcl := f1.len
            have hbl := f2.len
            have hrl : cl.flatten.length + (bl.flatten.length + t.length) = n := by have := f6.1; rw [List.length_append, List.length_append, HL.out] at this; exact this
            by_cases hb : a + 2 * bs ≤ n
            · have hbi : (a : Int) + 2 * (bs : Int) ≤ (n : Int) := by omega
              obtain ⟨X, Y, bl', rfl⟩ : ∃ X Y bl', bl = X :: Y :: bl' := f2.two f4 (by omega)
              obtain ⟨x1, x2⟩ := f2 X (by simp)
              obtain ⟨y1, y2⟩ := f2 Y (by simp)
              have e0 : cl.flatten ++ ((X :: Y :: bl').flatten ++ t) = cl.flatten ++ X ++ Y ++ (bl'.flatten ++ t) := by simp
              rw [e0] at f6 f7
              have hI := sym_all (X.length + Y.length) wr g n cap a (a + bs) (a + 2 * bs) cl.flatten X Y (bl'.flatten ++ t) rest (Nat.le_refl _) (by omega) (by omega) (by omega) (by omega) (by omega) x2 y2 f7 (by have := f6.1; rw [HL.out] at this; exact this) hc hm hn48 (f6.is HO.out)
              have NX := (show Hid (∀ (A' : List VC) (u : World), Srt kv A' → Sam kv (X ++ Y) A' → Row u g 28 (vfl (cl.flatten ++ A' ++ (bl'.flatten ++ t)) ++ rest) → ∃ (cl bl : List (List VC)) (t : List VC), FB (2 * bs) cl ∧ FB bs bl ∧ cl.length * (2 * bs) = a + 2 * bs ∧ t.length < bs ∧ Srt kv t ∧ Sam kv L (cl.flatten ++ (bl.flatten ++ t)) ∧ Row u g 28 (vfl (cl.flatten ++ (bl.flatten ++ t)) ++ rest)) from fun A' u h1 h2 h3 => ⟨cl ++ [A'], bl', t, f1.snoc ⟨by rw [h2.1, List.length_append]; omega, h1⟩, (fun x hx => f2 x (by simp [hx])), by rw [List.length_append, Nat.add_mul, f3]; simp, f4, f5, by
                rw [flat_snocV]
                have s := ((Sam.refl (k := kv) cl.flatten).app h2).app (Sam.refl (k := kv) (bl'.flatten ++ t))
                rw [← List.append_assoc cl.flatten] at s
                exact f6.trans s, by rw [flat_snocV]; exact h3⟩)
              have wab : IntKind.i64.wrap ((a : Int) + bs) = ((a + bs : Nat) : Int) := by rw [IntWalk.i64_in _ (by omega)]; omega
              have wb2 : IntKind.i64.wrap ((a : Int) + 2 * (bs : Int) + 2 * (bs : Int)) = (a : Int) + 2 * (bs : Int) + 2 * (bs : Int) := IntWalk.i64_in _ (by omega)
              have eb : ((a + 2 * bs : Nat) : Int) = (a : Int) + 2 * (bs : Int) := by omega
              rw [eb] at hI
              obtain ⟨m, hmm⟩ : ∃ m, m = a + bs := ⟨_, rfl⟩
              rw [← hmm] at hI wab
              clear hmm eb e0 x1 x2 y1 y2 f1 f2 f3 f4 f5 f6 f7 hcl hbl hrl hS
              go_wp2_with (go_at_call 62; refine hI.mono ?_; rintro e u1 ⟨rfl, ⟨A', h1, h2, h3⟩, k1⟩)
              go_roundw
              case rel => exact ⟨a + 2 * bs, by go_num, by go_num, hb, NX.out A' u1 h1 h2 h3, grown_trans hG k1 (.inl rfl)⟩
              case measure => simp [intOf]; omega
            · have hbi : decide ((a : Int) + 2 * (bs : Int) ≤ (n : Int)) = false := by simp; omega
              have wab : IntKind.i64.wrap ((a : Int) + bs) = ((a + bs : Nat) : Int) := by rw [IntWalk.i64_in _ (by omega)]; omega
              by_cases hmn : a + bs < n
              · obtain ⟨X, rfl⟩ : ∃ X, bl = [X] := f2.one f4 (by omega) (by omega)
                obtain ⟨x1, x2⟩ := f2 X (by simp)
                have e0 : cl.flatten ++ ([X].flatten ++ t) = cl.flatten ++ X ++ t ++ [] := by simp
                rw [e0] at f6 f7
                have hXl : [X].flatten.length = bs := by simp [x1]
                have hI := sym_all (X.length + t.length) wr g n cap a (a + bs) n cl.flatten X t [] rest (Nat.le_refl _) (by omega) (by omega) (by omega) (by omega) (by omega) x2 f5 f7 (by have := f6.1; rw [HL.out] at this; exact this) hc hm hn48 (f6.is HO.out)
                have NX := (show Hid (∀ (A' : List VC) (u : World), Srt kv A' → Sam kv (X ++ t) A' → Row u g 28 (vfl (cl.flatten ++ A' ++ []) ++ rest) → ∃ (bl : List (List VC)) (t : List VC), FB (2 * bs) bl ∧ t.length < 2 * bs ∧ Srt kv t ∧ Sam kv L (bl.flatten ++ t) ∧ Row u g 28 (vfl (bl.flatten ++ t) ++ rest)) from fun A' u h1 h2 h3 => ⟨cl, A', f1, by rw [h2.1, List.length_append]; omega, h1, by
                  have s := (Sam.refl (k := kv) cl.flatten).app h2
                  rw [← List.append_assoc] at s
                  rw [List.append_nil] at f6
                  exact f6.trans s, by rw [List.append_nil] at h3; exact h3⟩)
                obtain ⟨m, hmm⟩ : ∃ m, m = a + bs := ⟨_, rfl⟩
                have hmi : (m : Int) < (n : Int) := by omega
                rw [← hmm] at hI wab
                clear hmm e0 x1 x2 f1 f2 f3 f4 f5 f6 f7 hcl hbl hrl hS hXl hmn
                go_wp2_with (go_at_call 62; refine hI.mono ?_; rintro e u1 ⟨rfl, ⟨A', h1, h2, h3⟩, k1⟩)
                go_roundw
                case rel => exact ⟨2 * bs, by go_num, by omega, by omega, NX.out A' u1 h1 h2 h3, grown_trans hG k1 (.inl rfl)⟩
                case measure => simp [intOf]; omega
              · have hmi : decide (((a + bs : Nat) : Int) < (n : Int)) = false := by simp; omega
                have NX := (show Hid (∃ (bl : List (List VC)) (t : List VC), FB (2 * bs) bl ∧ t.length < 2 * bs ∧ Srt kv t ∧ Sam kv L (bl.flatten ++ t) ∧ Row wr g 28 (vfl (bl.flatten ++ t) ++ rest)) from by
                  have hs : Srt kv (bl.flatten ++ t) ∧ (bl.flatten ++ t).length < 2 * bs := ⟨f2.few f4 f5 (by omega), by rw [List.length_append]; omega⟩
                  exact ⟨cl, bl.flatten ++ t, f1, hs.2, hs.1, f6, f7⟩)
                obtain ⟨m, hmm⟩ : ∃ m, m = a + bs := ⟨_, rfl⟩
                rw [← hmm] at hmi wab
                have hmn' : ¬ m < n := by omega
                clear hmm f1 f2 f3 f4 f5 f6 f7 hcl hbl hrl hS hmn
                go_wp2_with fail
                go_roundw
                case rel => exact ⟨2 * bs, by go_num, by omega, by omega, NX, hG⟩
                case measure => simp [intOf]; omega
        · have hlti : decide ((bs : Int) < (n : Int)) = false := by simp; omega
          have FIN := (show Hid (∃ C, Srt kv C ∧ Sam kv L C ∧ Row wr g 28 (vfl C ++ rest)) from by
            obtain ⟨bl, t, f1, f2, f3, f4, f5⟩ := hS.out
            have hbl := f1.len
            have hrl : bl.flatten.length + t.length = n := by have := f4.1; rw [List.length_append, HL.out] at this; exact this
            have hs : Srt kv (bl.flatten ++ t) := f1.few f2 f3 (by omega)
            exact ⟨_, hs, f4, f5⟩)
          clear hS
          go_wp2_with fail
          go_end0
          exact ⟨rfl, FIN.out, hG⟩
end
section
open Go.RowKit Oct Stb
/-- Votes with where their signatures lie. -/
theorem vc_of {Q : Value → PVote → Prop} : ∀ {rows : List (List Value)} {ys : List PVote}, All2 (fun r x => ∃ s, r = [.int .i64 x.1, s] ∧ Q s x) rows ys → ∃ L : List VC, L.map (·.2) = ys ∧ rows.flatten = vfl L ∧ (∀ z ∈ L, Q z.1 z.2)
  | [], [], _ => ⟨[], rfl, rfl, fun z hz => by cases hz⟩
  | r :: rows, y :: ys, h => by
    obtain ⟨⟨s, rfl, hq⟩, h2⟩ := h
    obtain ⟨L, e1, e2, e3⟩ := vc_of h2
    refine ⟨(s, y) :: L, by simp [e1], by rw [List.flatten_cons, e2, vfl_cons]; rfl, fun z hz => ?_⟩
    rcases List.mem_cons.1 hz with rfl | hz
    · exact hq
    · exact e3 z hz
  | [], _ :: _, h => h.elim
  | _ :: _, [], h => h.elim
/-- A row of votes is a list that can be read. -/
theorem rl_vc {G : Nat → Prop} {w : World} {g n cap : Nat} {C : List VC} {rest : List Value} (hR : Row w g 28 (vfl C ++ rest)) (hn : C.length = n) (hc : n ≤ cap) (hm : cap ≤ maxLen) (hg : G g) (hq : ∀ z ∈ C, RT G w z.1 z.2.2) : RL RVote 2 G w (.slice (some ⟨g, 0, none⟩) n cap) (C.map (·.2)) := by
  refine ⟨C.map vce, ⟨fun r hr => ?_, ?_⟩, All2.of_get (by simp) fun i r x hr hx => ?_⟩
  · obtain ⟨z, _, rfl⟩ := List.mem_map.1 hr
    rfl
  · rcases Nat.eq_zero_or_pos n with h | h
    · subst h
      obtain rfl : C = [] := List.eq_nil_of_length_eq_zero hn
      exact .inl ⟨_, cap, rfl, rfl, hm⟩
    · refine .inr ⟨g, 0, cap, by rw [List.length_map, hn], by rw [List.length_map]; omega, hm, by rw [List.length_map]; omega, hg, hR.lt, fun i r hr => ?_⟩
      rw [List.getElem?_map] at hr
      cases hz : C[i]? with
      | none => rw [hz] at hr; cases hr
      | some z =>
        rw [hz] at hr
        injection hr with hr
        obtain ⟨c0, c1⟩ := vfl_get hR hz
        intro j u hj
        rw [← hr] at hj
        match j, hj with
        | 0, hj => injection hj with hj; rw [← hj, Nat.zero_add]; exact c0
        | 1, hj => injection hj with hj; rw [← hj, Nat.zero_add]; exact c1
        | j + 2, hj => simp [vce] at hj
  · rw [List.getElem?_map] at hr hx
    cases hz : C[i]? with
    | none => rw [hz] at hr; cases hr
    | some z =>
      rw [hz] at hr hx
      injection hr with hr
      injection hx with hx
      subst hr hx
      exact ⟨z.1, rfl, hq z (List.mem_of_getElem? hz)⟩
def ks (x : PVote) : Int := x.1
theorem insNil_any (w : World) (f : Value) : Calls Tryd.prog 61 #[.slice none 0 0, .int .i64 0, .int .i64 0, f] w fun e w' => e = .returned (.tuple #[]) ∧ w' = w := by
  go_enter Tryd.func61, Tryd.ntmps61
  go_wp2_with fail
  refine wp_loop_rounds 1 ?_; rw [rounds_succ]
  go_wp2_with fail
  go_end0
  exact ⟨rfl, rfl⟩
theorem stableNil_any (w : World) (f : Value) : Calls Tryd.prog 42 #[.slice none 0 0, .int .i64 0, f] w fun e w' => e = .returned (.tuple #[]) ∧ w' = w := by
  go_enter Tryd.func42, Tryd.ntmps42
  go_wp2_with fail
  refine wp_loop_rounds 1 ?_; rw [rounds_succ]
  go_wp2_with (go_at_call 61; refine (insNil_any w f).mono ?_; rintro e w ⟨rfl, rfl⟩)
  refine wp_loop_rounds 1 ?_; rw [rounds_succ]
  go_wp2_with fail
  go_end0
  exact ⟨rfl, rfl⟩
theorem ssfNil_any (w : World) (f : Value) : Calls Tryd.prog 32 #[.slice none 0 0, f] w fun e w' => e = .returned (.tuple #[]) ∧ w' = w := by
  go_enter Tryd.func32, Tryd.ntmps32
  go_wp2_with (go_at_call 42; refine (stableNil_any w f).mono ?_; rintro e w ⟨rfl, rfl⟩)
  go_end0
  exact ⟨rfl, rfl⟩
theorem ssf_any (w : World) (g n cap : Nat) (L : List VC) (rest : List Value) (hR : Row w g 28 (vfl L ++ rest)) (hn : L.length = n) (hc : n ≤ cap) (hm : cap ≤ maxLen) (hn48 : n ≤ 281474976710656) (hone : ∀ z ∈ L, IsS z.1) :
    Calls Tryd.prog 32 #[.slice (some ⟨g, 0, none⟩) n cap, .func (.func 33) #[] #[]] w fun e w' => e = .returned (.tuple #[]) ∧ (∃ C, Srt kv C ∧ Sam kv L C ∧ Row w' g 28 (vfl C ++ rest)) ∧ w.grownBy w' (some g) := by
  have hS := stable_any w g n cap L rest hR hn hc hm hn48 hone
  clear hR hn
  go_enter Tryd.func32, Tryd.ntmps32
  go_wp2_with (go_at_call 42; refine hS.mono ?_; rintro e w1 ⟨rfl, h1, h2⟩)
  go_end0
  exact ⟨rfl, h1, h2⟩
/-- vote.Sort. -/
theorem vSort_any (w : World) (v : Value) (ys : List PVote) (h : RL RVote 2 Any w v ys) (hz : szL 32 szV ys) :
    Calls Tryd.prog 26 #[v] w fun e w' => ∃ v' zs, e = .returned v' ∧ RL RVote 2 (From w.heap.size) w' v' zs ∧ Srt ks zs ∧ Sam ks ys zs ∧ Below w.heap.size w w' := by
  have hC := cvotesL_any w v ys h hz
  have hz1 := hz.1
  obtain ⟨av, cv, rfl, _⟩ := h.form
  clear h
  go_enter Tryd.func26, Tryd.ntmps26
  go_upto_region 2 with (go_at_call 31; refine hC.mono ?_; rintro e w1 ⟨v1, rfl, hL1, hb1⟩)
  obtain ⟨rows, h0, hown, hfr, hall⟩ := hL1
  have hlen := hall.len
  rcases hown.2 with ⟨rfl, hy0⟩ | ⟨g, cap, cur, rfl, _, hrow, hc1, hc2, hc3, hc4⟩
  · obtain rfl : ys = [] := List.eq_nil_of_length_eq_zero (by omega)
    have hN := ssfNil_any w1 (.func (.func 33) #[] #[])
    clear hown hfr hall hlen h0 hy0
    go_wp2_with (go_at_call 32; refine hN.mono ?_; rintro e w1 ⟨rfl, rfl⟩)
    go_ret
    exact ⟨_, [], rfl, RL.nil _ _ _ _, List.Pairwise.nil, Sam.refl _, hb1⟩
  · obtain ⟨L, e1, e2, e3⟩ := vc_of (Q := fun s x => RT (fun b => w.heap.size ≤ b ∧ (Value.slice (some ⟨g, 0, none⟩) rows.length cap).ownBlock ≠ some b) w1 s x.2) hall
    have hLl : L.length = rows.length := by have := congrArg List.length e1; rw [List.length_map] at this; omega
    have hcur : cur.toList = vfl L ++ cur.toList.drop (rows.length * 2) := by
      rw [← e2, ← hc4, List.take_append_drop]
    have hR1 : Row w1 g 28 (vfl L ++ cur.toList.drop (rows.length * 2)) := by
      rw [← hcur]
      unfold Row
      simpa using hrow
    have hgw : w.heap.size ≤ g := hfr g rfl
    have hS := ssf_any w1 g rows.length cap L _ hR1 hLl hc1 hc2 (by omega) (fun z hz => by
      obtain ⟨a, c, e, _⟩ := (e3 z hz).form
      exact ⟨a, _, c, e⟩)
    generalize rows.length = n at *
    have FIN := (show Hid (∀ (C : List VC) (u : World), Srt kv C → Sam kv L C → Row u g 28 (vfl C ++ cur.toList.drop (n * 2)) → w1.grownBy u (some g) → RL RVote 2 (From w.heap.size) u (.slice (some ⟨g, 0, none⟩) n cap) (C.map (·.2)) ∧ Srt ks (C.map (·.2)) ∧ Sam ks ys (C.map (·.2)) ∧ Below w.heap.size w u) from fun C u h1 h2 h3 h4 => by
      refine ⟨rl_vc h3 (by rw [h2.1]; exact hLl) hc1 hc2 hgw fun z hz => ?_, Srt.map (fun _ => rfl) h1, ?_, hb1.trans (grown_below h4 hb1.size (fun k hk => by cases hk; exact hgw))⟩
      · exact (e3 z (h2.mem.1 hz)).mv fun k hk hl => ⟨h4.block k hl (fun e => hk.2 (by injection e with e; rw [e]; rfl)), hk.1⟩
      · have := Sam.map (f := fun z : VC => z.2) (k' := ks) (fun _ => rfl) h2
        rwa [e1] at this)
    clear hrow hcur hR1 e1 e2 e3 hall hown h0 hfr hc4 hlen hLl hc3
    go_wp2_with (go_at_call 32; refine hS.mono ?_; rintro e w2 ⟨rfl, ⟨C, h1, h2, h3⟩, h4⟩)
    go_ret
    obtain ⟨f1, f2, f3, f4⟩ := FIN.out C w2 h1 h2 h3 h4
    exact ⟨_, _, rfl, f1, f2, f3, f4⟩
end
end Go.Proofs.YtgpkngiakhdmhaaDoor
