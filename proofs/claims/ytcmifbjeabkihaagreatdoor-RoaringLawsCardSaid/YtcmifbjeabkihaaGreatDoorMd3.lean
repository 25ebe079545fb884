/- Walks: what is known of sets. -/
import Derived.Test.YtcmifbjeabkihaaGreatDoorMb7
import Derived.Test.YtcmifbjeabkihaaGreatDoorMd2
/- Walks: Runs of a set. -/
namespace Go.Proofs.YtcmifbjeabkihaaGreatDoor
open Go.RowKit
set_option linter.unusedVariables false

/-- A run of a key's container, as a span. -/
def sh (y : Nat) (r : Rn) : Sn := (UInt64.ofNat (65536 * y + r.1.toNat), UInt64.ofNat (65536 * y + lst r + 1))
theorem sh_nat {y : Nat} {r : Rn} (hy : y < 65536) (hr : lst r ≤ 65535) : (sh y r).1.toNat = 65536 * y + r.1.toNat ∧ (sh y r).2.toNat = 65536 * y + lst r + 1 := by
  have := fst_le r
  exact ⟨u64_of _ (by omega), u64_of _ (by omega)⟩
theorem jst_sh {y : Nat} {r : Rn} (hy : y < 65536) (hr : lst r ≤ 65535) (l : List Sn) : jst l (sh y r) = wsp l (sh y r) := by
  obtain ⟨h1, h2⟩ := sh_nat hy hr
  have h3 := clip_hi (sh y r)
  have h4 := fst_le r
  have e : clip (sh y r) = sh y r := by
    refine Prod.ext rfl (u64_ext' ?_)
    rw [h3, h2]; omega
  unfold jst
  rw [e, if_pos (by omega)]
/-- All runs of the entries, as spans. -/
def shs (P : Nat → Bool) (es : List En) : List Sn := es.flatMap fun e => (rs (blk P e.key.toNat) 65536).map (sh e.key.toNat)
theorem shs_app (P : Nat → Bool) (a b : List En) : shs P (a ++ b) = shs P a ++ shs P b := List.flatMap_append
theorem mayr_lst : ∀ (l : List Rn) (n : Nat), mayr n l = true → ∀ r ∈ l, n ≤ r.1.toNat ∧ lst r ≤ 65535
  | [], _, _ => fun r h => by cases h
  | s :: l, n, h => by
    obtain ⟨h1, h2, h3⟩ := mayr_cons.1 h
    intro r hr
    have := fst_le s
    rcases List.mem_cons.1 hr with rfl | hr
    · exact ⟨h1, h2⟩
    · have := mayr_lst l _ h3 r hr; exact ⟨by omega, this.2⟩
theorem mayr_pw : ∀ (l : List Rn) (n : Nat), mayr n l = true → l.Pairwise fun a b => a.1.toNat ≤ b.1.toNat
  | [], _, _ => List.Pairwise.nil
  | s :: l, n, h => by
    obtain ⟨h1, h2, h3⟩ := mayr_cons.1 h
    refine List.pairwise_cons.2 ⟨fun r hr => ?_, mayr_pw l _ h3⟩
    have := (mayr_lst l _ h3 r hr).1
    have := fst_le s
    omega
theorem rs_lst (p : Nat → Bool) : ∀ r ∈ rs p 65536, lst r ≤ 65535 := fun r hr => (mayr_lst _ 0 (mayr_rs p) r hr).2
theorem shs_key {N : Nat → Prop} {w : World} {P : Nat → Bool} : ∀ (es : List En) (K : Nat), Dir N w P K 65536 es →
    (∀ s ∈ shs P es, 65536 * K ≤ s.1.toNat) ∧ ((shs P es).Pairwise fun s t => s.1.toNat ≤ t.1.toNat) ∧ ∀ x, 65536 * K ≤ x → x < 4294967296 → sp (shs P es) x = P x
  | [], K, h => ⟨fun s hs => absurd hs List.not_mem_nil, List.Pairwise.nil, fun x h1 h2 => (nz_none (h.none (x / 65536) (by omega) (by omega))).symm ▸ rfl⟩
  | e :: es, K, h => by
    obtain ⟨a, b, c⟩ := shs_key es _ h.tail
    obtain ⟨h1, h2, h3, h4⟩ := h.head
    have hm := mayr_rs (blk P e.key.toNat)
    have hl := rs_lst (blk P e.key.toNat)
    have he : shs P (e :: es) = (rs (blk P e.key.toNat) 65536).map (sh e.key.toNat) ++ shs P es := by simp [shs]
    rw [he]
    have hs : ∀ s ∈ (rs (blk P e.key.toNat) 65536).map (sh e.key.toNat), 65536 * e.key.toNat ≤ s.1.toNat ∧ s.1.toNat < 65536 * (e.key.toNat + 1) := fun s hs => by
      obtain ⟨r, hr, rfl⟩ := List.mem_map.1 hs
      have hr' := hl r hr
      have := fst_le r
      rw [(sh_nat h2 hr').1]
      omega
    refine ⟨fun s hs' => ?_, ?_, fun x x1 x2 => ?_⟩
    · rcases List.mem_append.1 hs' with h | h
      · have := (hs s h).1; omega
      · have := a s h; omega
    · refine List.pairwise_append.2 ⟨?_, b, fun s h t h' => ?_⟩
      · refine List.pairwise_map.2 ((mayr_pw _ 0 hm).imp_of_mem fun {r r'} hr hr' hrr => ?_)
        rw [(sh_nat h2 (hl r hr)).1, (sh_nat h2 (hl r' hr')).1]
        omega
      · have := (hs s h).2; have := a t h'; omega
    · have hk : ∀ x, sp ((rs (blk P e.key.toNat) 65536).map (sh e.key.toNat)) x = (decide (x / 65536 = e.key.toNat) && P x) := fun x => by
        rw [Bool.eq_iff_iff, Bool.and_eq_true, decide_eq_true_eq]
        rw [sp_iff]
        constructor
        · rintro ⟨s, hs', g1, g2⟩
          obtain ⟨r, hr, rfl⟩ := List.mem_map.1 hs'
          have hr' := hl r hr
          obtain ⟨u1, u2⟩ := sh_nat (y := e.key.toNat) h2 hr'
          rw [u1] at g1
          rw [u2] at g2
          have hx : x / 65536 = e.key.toNat := by omega
          refine ⟨hx, ?_⟩
          rw [← blk_at P x, hx, ← mr_rs (blk P e.key.toNat) (Nat.mod_lt _ (by omega))]
          unfold mr
          rw [List.any_eq_true]
          exact ⟨r, hr, (inr_iff _ _).2 ⟨by omega, by omega⟩⟩
        · rintro ⟨hx, hp⟩
          rw [← blk_at P x, hx, ← mr_rs (blk P e.key.toNat) (Nat.mod_lt _ (by omega))] at hp
          unfold mr at hp
          rw [List.any_eq_true] at hp
          obtain ⟨r, hr, hi⟩ := hp
          obtain ⟨i1, i2⟩ := (inr_iff _ _).1 hi
          obtain ⟨u1, u2⟩ := sh_nat (y := e.key.toNat) h2 (hl r hr)
          exact ⟨sh e.key.toNat r, List.mem_map_of_mem hr, by rw [u1]; omega, by rw [u2]; omega⟩
      rw [sp_app, hk]
      by_cases h5 : x / 65536 < e.key.toNat
      · rw [nz_none (h.gap (x / 65536) (by omega) h5)]
        have : sp (shs P es) x = false := by
          cases hq : sp (shs P es) x with
          | false => rfl
          | true =>
            obtain ⟨s, g1, g2, g3⟩ := (sp_iff _ _).1 hq
            have := a s g1; omega
        rw [this, Bool.and_false]; rfl
      · by_cases h6 : x / 65536 = e.key.toNat
        · have : sp (shs P es) x = false := by
            cases hq : sp (shs P es) x with
            | false => rfl
            | true =>
              obtain ⟨s, g1, g2, g3⟩ := (sp_iff _ _).1 hq
              have := a s g1; omega
          rw [this, decide_eq_true h6, Bool.true_and, Bool.or_false]
        · rw [decide_eq_false h6, Bool.false_and, Bool.false_or]
          exact c x (by omega) x2
theorem hm_ct (p : Nat → Bool) (n : Nat) : ct (hm p) n ≤ ct p n := by
  induction n with
  | zero => exact Nat.le_refl _
  | succ n ih =>
    rw [ct, ct]
    have : (hm p n).toNat ≤ (p n).toNat := by
      unfold hm
      cases p n with
      | false => simp
      | true => cases (decide (n = 0) || !p (n - 1)) <;> simp
    omega
theorem shs_len {N : Nat → Prop} {w : World} {P : Nat → Bool} : ∀ (es : List En) (K : Nat), K ≤ 65536 → Dir N w P K 65536 es → (shs P es).length + ct P (65536 * K) ≤ ct P 4294967296
  | [], K, hK, h => by
    have := ct_mono P (a := 65536 * K) (b := 4294967296) (by omega)
    simpa [shs] using this
  | e :: es, K, hK, h => by
    have h2 := h.head.2.1
    have := shs_len es _ (by omega) h.tail
    have he : (shs P (e :: es)).length = ct (hm (blk P e.key.toNat)) 65536 + (shs P es).length := by
      rw [← rs_len]; simp [shs]
    rw [ct_next] at this
    have h3 := hm_ct (blk P e.key.toNat) 65536
    have h4 := ct_mono P (a := 65536 * K) (b := 65536 * e.key.toNat) (by have := h.head.1; omega)
    omega
theorem foldl_jst_app (a b : List Sn) : jn (a ++ b) = b.foldl jst (jn a) := by unfold jn; rw [List.foldl_append]
set_option maxHeartbeats 8000000 in
theorem setruns_c {N : Nat → Prop} (v : Value) (P : Nat → Bool) (w : World) (hT : Tb w) (h : St N w v P) (hct : ct P 4294967296 ≤ 50000000) :
    Calls Tryz.prog 29 #[v] w fun e w' => ∃ v' l, e = .returned v' ∧ Gw2 eSp w' w.heap.size v' l ∧ mys 0 l ∧ (∀ x, x < 4294967296 → sp l x = P x) ∧ l.length ≤ ct P 4294967296 ∧ Below w.heap.size w w' := by
  have H := Lib.hid h
  have TT := Lib.hid hT
  have HCT := Lib.hid hct
  clear h hT hct
  go_enter Tryz.func29, Tryz.ntmps29
  go_wp2_with fail
  refine (entries_c v P _ H.out).mono ?_
  rintro e w0 ⟨A, n, c, es, rfl, hz, g, d⟩
  have hz := hz.symm
  subst hz
  have hn : n = es.length := by obtain ⟨_, _, e, _⟩ := g; injection e
  subst hn
  have HV := Lib.hid g
  have HD := Lib.hid d
  have HSL : Hid ((shs P es).length ≤ ct P 4294967296) := Lib.hid (by have := shs_len es 0 (by omega) d; omega)
  have HLEN := Lib.hid d.len
  clear g d
  go_wp2
  go_loopw [3, 12] (fun s3 s12 wr => ∃ k : Nat, k ≤ es.length ∧ s12 = .int .i64 k ∧ Hid (JI w wr s3 (jn (shs P (es.take k))))) (fun _ s12 _ => es.length - (intOf s12).toNat)
  case atStart => exact ⟨0, Nat.zero_le _, rfl, Lib.hid ⟨Gw2.nil_ _ _, fun _ => rfl, Below.refl _ _⟩⟩
  case round =>
    obtain ⟨k, hk, rfl, hj⟩ := hrel
    have HJ := Lib.hid hj.out
    have hbl := hj.out.2.2
    by_cases hlt : k < es.length
    · obtain ⟨b, off, e, e1, -, hb, hdr, hg, c0, c1, c2, c3, c4⟩ := gsv_at HV.out hlt
      subst e1
      rw [← hbl.cell (p := ⟨b, off + k * 5, none⟩) hb] at c0
      rw [← hbl.cell (p := ⟨b, off + k * 5 + 1, none⟩) hb] at c1
      rw [← hbl.cell (p := ⟨b, off + k * 5 + 2, none⟩) hb] at c2
      rw [← hbl.cell (p := ⟨b, off + k * 5 + 3, none⟩) hb] at c3
      rw [← hbl.cell (p := ⟨b, off + k * 5 + 4, none⟩) hb] at c4
      obtain ⟨-, hy2, -, hcn⟩ := HD.out.mem e (List.mem_of_getElem? hg)
      have hts : shs P (es.take (k + 1)) = shs P (es.take k) ++ (rs (blk P e.key.toNat) 65536).map (sh e.key.toNat) := by rw [take_snoc hg, shs_app]; simp [shs]
      have hall : (shs P (es.take k) ++ (rs (blk P e.key.toNat) 65536).map (sh e.key.toNat)).length ≤ 50000000 := by
        rw [← hts]
        have e9 : shs P es = shs P (es.take (k + 1)) ++ shs P (es.drop (k + 1)) := by rw [← shs_app, List.take_append_drop]
        have := HSL.out
        have := HCT.out
        have h5 := congrArg List.length e9
        rw [List.length_append] at h5
        omega
      obtain ⟨y, hy⟩ : ∃ y, y = e.key.toNat := ⟨_, rfl⟩
      rw [← hy] at c0 hcn hts hall hy2
      obtain ⟨m, hm⟩ : ∃ m, ct (hm (blk P y)) 65536 = m := ⟨_, rfl⟩
      have hrl : (rs (blk P y) 65536).length = m := by rw [rs_len]; exact hm
      have hml : m ≤ 65536 := by rw [← hm]; exact ct_le _ _
      have hrlst := rs_lst (blk P y)
      obtain ⟨rl, hrle⟩ : ∃ rl, rl = rs (blk P y) 65536 := ⟨_, rfl⟩
      rw [← hrle] at hts hall hrl hrlst
      have HRLE := Lib.hid hrle
      have HTS := Lib.hid hts
      have HALL := Lib.hid hall
      have HM := Lib.hid hm
      have HRL := Lib.hid hrl
      have HRS := Lib.hid hrlst
      have HC := Lib.hid (hcn.step hbl)
      have hkl : (k : Int) < es.length := by omega
      have bz := bx wr (.cells #[.int .u16 y, .int .u8 e.b.κ, .slice e.b.A e.b.n e.b.c, .slice e.b.A2 e.b.n2 e.b.c2, .slice e.b.A3 e.b.n3 e.b.c3] 96)
      have rz := Row.new wr 96 #[.int .u16 y, .int .u8 e.b.κ, .slice e.b.A e.b.n e.b.c, .slice e.b.A2 e.b.n2 e.b.c2, .slice e.b.A3 e.b.n3 e.b.c3]
      clear hdr hg hcn hts hall hy hm hrl hrlst hrle hj
      go_wp2_with fail
      generalize wr.alloc (.cells #[.int .u16 y, .int .u8 e.b.κ, .slice e.b.A e.b.n e.b.c, .slice e.b.A2 e.b.n2 e.b.c2, .slice e.b.A3 e.b.n3 e.b.c3] 96) = w1 at *
      have B1 := Lib.hid bz
      have HG0 : Hid (w.heap.size ≤ wr.heap.size) := Lib.hid HJ.out.2.2.size
      have J1 : Hid (JI w w1 u3 (jn (shs P (es.take k)))) := Lib.hid ⟨HJ.out.1.below bz (Nat.le_refl _), HJ.out.2.1, HJ.out.2.2.trans (bz.mono HJ.out.2.2.size)⟩
      have TT1 : Hid (Tb w1) := Lib.hid (TT.out.step J1.out.2.2)
      have OWL : Hid (∀ g, u3.ownBlock = some g → g < wr.heap.size) := Lib.hid (fun g hg => (HJ.out.1.lt g hg).2)
      have OW : Hid (∀ g, u3.ownBlock = some g → g ≠ wr.heap.size) := Lib.hid (fun g hg => by have := (HJ.out.1.lt g hg).2; omega)
      have R1 := Lib.hid rz
      clear bz rz hbl HJ
      refine (runs_c _ (blk P y) _ m _ TT1.out HM.out (HC.out.step B1.out)).mono ?_
      rintro e5 w2 ⟨A5, c5, rfl, g5, b5⟩
      rw [← HRLE.out] at g5
      have G5 := Lib.hid g5
      have J2 : Hid (JI w w2 u3 (jn (shs P (es.take k)))) := Lib.hid ⟨J1.out.1.below b5 (Nat.le_refl _), J1.out.2.1, J1.out.2.2.trans (b5.mono J1.out.2.2.size)⟩
      have R2 := Lib.hid (R1.out.below b5 R1.out.lt)
      have HG1 : Hid (w1.heap.size ≤ w2.heap.size ∧ wr.heap.size < w1.heap.size) := Lib.hid ⟨b5.size, R1.out.lt⟩
      clear g5 b5 B1 TT1 J1 HC R1
      go_wp2
      generalize wr.heap.size = g0 at *
      obtain ⟨lo5, hlo5⟩ : ∃ lo5, lo5 = w1.heap.size := ⟨_, rfl⟩
      rw [← hlo5] at G5 HG1
      clear hlo5
      go_loopw [3, 20] (fun t3 t20 wi => ∃ j : Nat, j ≤ m ∧ t20 = .int .i64 j ∧ Hid (JI w wi t3 (jn (shs P (es.take k) ++ (rl.take j).map (sh y))) ∧ Row wi g0 96 #[.int .u16 y, .int .u8 e.b.κ, .slice e.b.A e.b.n e.b.c, .slice e.b.A2 e.b.n2 e.b.c2, .slice e.b.A3 e.b.n3 e.b.c3] ∧ (∀ g, t3.ownBlock = some g → g ≠ g0 ∧ (g < lo5 ∨ w2.heap.size ≤ g)) ∧ Gs2 eR wi lo5 w2.heap.size (.slice A5 m c5) rl ∧ w2.heap.size ≤ wi.heap.size)) (fun _ t20 _ => m - (intOf t20).toNat)
      case atStart => exact ⟨0, Nat.zero_le _, rfl, Lib.hid ⟨by simpa using J2.out, R2.out, fun g hg => ⟨OW.out g hg, .inl (by have := (OWL.out g hg); have := HG1.out.2; omega)⟩, G5.out, Nat.le_refl _⟩⟩
      case round =>
        obtain ⟨j, hj, rfl, hI⟩ := hrel
        have HI := Lib.hid hI.out
        have r0 := HI.out.2.1
        have c0 : wr.cell? ⟨g0, 0, none⟩ = some (.int .u16 (y : Int)) := r0.cell 0
        by_cases hjm : j < m
        · obtain ⟨b5, off5, r, e5, -, hb5, hdr5, hg5, d0, d1⟩ := gs2_at HI.out.2.2.2.1 (by rw [HRL.out]; exact hjm : j < rl.length)
          subst e5
          have hrl5 := HRS.out r (List.mem_of_getElem? hg5)
          obtain ⟨s1, s2⟩ := sh_nat (y := y) hy2 hrl5
          have hX : jn (shs P (es.take k) ++ (rl.take (j + 1)).map (sh y)) = wsp (jn (shs P (es.take k) ++ (rl.take j).map (sh y))) (sh y r) := by
            rw [take_snoc hg5, List.map_append, ← List.append_assoc]
            rw [show [r].map (sh y) = [sh y r] from rfl, jn_snoc, jst_sh hy2 hrl5]
          have HX := Lib.hid hX
          obtain ⟨p, hp⟩ : ∃ p : Nat, p = r.1.toNat := ⟨_, rfl⟩
          obtain ⟨q, hq⟩ : ∃ q : Nat, q = r.2.toNat := ⟨_, rfl⟩
          have hlr : lst r = p + q := by unfold lst; rw [hp, hq]
          rw [← hp] at d0 s1
          rw [← hq] at d1
          rw [hlr] at s2 hrl5
          have HS1 := Lib.hid s1
          have HS2 := Lib.hid s2
          obtain ⟨z1, hz1⟩ : ∃ z1 : Nat, 65536 * y + p = z1 := ⟨_, rfl⟩
          have hcall := fun W => number_c y p W hy2 (by omega)
          rw [hz1] at hcall s1
          have HZ1 := Lib.hid hz1
          have hz1b : z1 + q + 1 ≤ 4294967296 := by omega
          have w1' : IntKind.u64.wrap (z1 : Int) = z1 := by rw [IntKind.wrap_u64]; omega
          have w2' : IntKind.u64.wrap (q : Int) = q := by rw [IntKind.wrap_u64]; omega
          have w3' : IntKind.u64.wrap ((z1 : Int) + q) = (z1 : Int) + q := by rw [IntKind.wrap_u64]; omega
          have w4' : IntKind.u64.wrap ((z1 : Int) + q + 1) = (z1 : Int) + q + 1 := by rw [IntKind.wrap_u64]; omega
          have hjmi : (j : Int) < m := by omega
          have HJN : Hid ((jn (shs P (es.take k) ++ (rl.take j).map (sh y))).length ≤ 100000000) := Lib.hid (by
            have h1 := jn_len (shs P (es.take k) ++ (rl.take j).map (sh y))
            have h2 := HALL.out
            rw [List.length_append, List.length_map] at h1 h2
            rw [List.length_take] at h1
            have := Nat.min_le_right j rl.length
            omega)
          have bz := bx wr (.cells #[.int .u16 (p : Int), .int .u16 (q : Int)] 120)
          have HII : Hid (JI w (wr.alloc (.cells #[.int .u16 (p : Int), .int .u16 (q : Int)] 120)) u3 (jn (shs P (es.take k) ++ (rl.take j).map (sh y))) ∧ Row (wr.alloc (.cells #[.int .u16 (p : Int), .int .u16 (q : Int)] 120)) g0 96 #[.int .u16 y, .int .u8 e.b.κ, .slice e.b.A e.b.n e.b.c, .slice e.b.A2 e.b.n2 e.b.c2, .slice e.b.A3 e.b.n3 e.b.c3] ∧ Gs2 eR (wr.alloc (.cells #[.int .u16 (p : Int), .int .u16 (q : Int)] 120)) lo5 w2.heap.size (.slice (some ⟨b5, off5, none⟩) m c5) rl) := Lib.hid
            ⟨⟨HI.out.1.1.below bz (Nat.le_refl _), HI.out.1.2.1, HI.out.1.2.2.trans (bz.mono HI.out.1.2.2.size)⟩, r0.below bz r0.lt, HI.out.2.2.2.1.below (bz.mono HI.out.2.2.2.2)⟩
          have SZ : Hid (wr.heap.size ≤ (wr.alloc (.cells #[.int .u16 (p : Int), .int .u16 (q : Int)] 120)).heap.size) := Lib.hid bz.size
          have c0' : (wr.alloc (.cells #[.int .u16 (p : Int), .int .u16 (q : Int)] 120)).cell? ⟨g0, 0, none⟩ = some (.int .u16 (y : Int)) := HII.out.2.1.cell 0
          clear hdr5 hg5 hX hp hq hlr s1 s2 hz1 bz hI hrl5 r0
          go_wp2_with (go_at_call 78; refine (hcall _).mono ?_; rintro e w9 ⟨rfl, hz⟩; have hz := hz.symm; subst hz)
          generalize wr.alloc (.cells #[.int .u16 (p : Int), .int .u16 (q : Int)] 120) = w3 at *
          have hW := withSpan_c (jn (shs P (es.take k) ++ (rl.take j).map (sh y))) (sh y r) u3 w.heap.size w3 HII.out.1.1 HII.out.1.2.1 HJN.out HII.out.1.2.2.size
          rw [HS1.out, HS2.out, HZ1.out, show ((65536 * y + (p + q) + 1 : Nat) : Int) = (z1 : Int) + q + 1 by have := HZ1.out; omega] at hW
          refine hW.mono ?_
          clear hW hcall
          rintro e w4 ⟨v4, rfl, g4, ⟨s4, t4⟩, b4⟩
          have hne : ∀ g, u3.ownBlock = some g → g ≠ g0 ∧ (g < lo5 ∨ w2.heap.size ≤ g) := HI.out.2.2.1
          have NX : Hid (JI w w4 v4 (jn (shs P (es.take k) ++ (rl.take (j + 1)).map (sh y))) ∧ Row w4 g0 96 #[.int .u16 y, .int .u8 e.b.κ, .slice e.b.A e.b.n e.b.c, .slice e.b.A2 e.b.n2 e.b.c2, .slice e.b.A3 e.b.n3 e.b.c3] ∧ (∀ g, v4.ownBlock = some g → g ≠ g0 ∧ (g < lo5 ∨ w2.heap.size ≤ g)) ∧ Gs2 eR w4 lo5 w2.heap.size (.slice (some ⟨b5, off5, none⟩) m c5) rl ∧ w2.heap.size ≤ w4.heap.size) := Lib.hid
            ⟨⟨by rw [HX.out]; exact g4, fun h => absurd (HX.out.symm.trans h) (wsp_ne _ _), HII.out.1.2.2.trans b4⟩, HII.out.2.1.grown s4 (fun e => (hne g0 e).1 rfl), fun g hg => by
              rcases t4 with e | ⟨g', e, hle⟩
              · exact hne g (e ▸ hg)
              · rw [e] at hg; injection hg with hg; subst hg
                have h1 := HII.out.2.1.lt; have h2 := HI.out.2.2.2.2; have h3 := SZ.out
                exact ⟨by omega, .inr (by omega)⟩,
             HII.out.2.2.grown s4 (Nat.le_trans HI.out.2.2.2.2 SZ.out) (fun k hk => (hne k hk).2), Nat.le_trans HI.out.2.2.2.2 (Nat.le_trans SZ.out s4.size)⟩
          clear g4 s4 t4 b4 hne
          go_wp2
          refine ⟨⟨j + 1, by omega, by go_num, NX⟩, by simp [intOf]; omega⟩
        · obtain rfl : j = m := by omega
          have HJ3 : Hid (JI w wr u3 (jn (shs P (es.take (k + 1))))) := Lib.hid (by
            have := HI.out.1
            rw [← HRL.out, List.take_length, ← HTS.out] at this
            exact this)
          have hlen := HLEN.out
          clear hI HI r0
          go_wp2
          refine ⟨⟨k + 1, by omega, by go_num, HJ3⟩, by simp [intOf]; omega⟩
    · obtain rfl : k = es.length := by omega
      have hj2 := hj.out
      rw [List.take_length] at hj2
      have HJ2 := Lib.hid hj2
      clear hj hj2 HJ hbl
      go_wp2
      go_ret
      obtain ⟨a, b, c⟩ := shs_key es 0 HD.out
      obtain ⟨j1, j2, j3⟩ := jn_right (shs P es) b
      exact ⟨_, jn (shs P es), rfl, HJ2.out.1, j1, fun x hx => by rw [j2, decide_eq_true hx, Bool.true_and]; exact c x (by omega) hx, Nat.le_trans (jn_len _) HSL.out, HJ2.out.2.2⟩
end Go.Proofs.YtcmifbjeabkihaaGreatDoor
/- Walks: Keys of a set; whether two sets are the same. -/
namespace Go.Proofs.YtcmifbjeabkihaaGreatDoor
open Go.RowKit
set_option linter.unusedVariables false

set_option maxHeartbeats 4000000 in
theorem setkeys_c {N : Nat → Prop} (v : Value) (P : Nat → Bool) (w : World) (h : St N w v P) :
    Calls Tryz.prog 42 #[v] w fun e w' => ∃ v', e = .returned v' ∧ Gs e16 w' w.heap.size w'.heap.size v' (ls (nz P) 65536) ∧ Below w.heap.size w w' := by
  have H := Lib.hid h
  obtain ⟨L, hL⟩ : ∃ L, ls (nz P) 65536 = L := ⟨_, rfl⟩
  rw [hL]
  have HL := Lib.hid hL
  clear h hL
  go_enter Tryz.func42, Tryz.ntmps42
  go_wp2_with fail
  refine (entries_c v P _ H.out).mono ?_
  rintro e w0 ⟨A, n, c, es, rfl, hz, g, d⟩
  have hz := hz.symm
  subst hz
  have hn : n = es.length := by obtain ⟨_, _, e, _⟩ := g; injection e
  subst hn
  have HV := Lib.hid g
  have HD := Lib.hid d
  have hlen := d.len
  clear g d
  go_wp2
  go_loopw [3, 9] (fun s3 s9 wr => ∃ k : Nat, k ≤ es.length ∧ s9 = .int .i64 k ∧ Gw e16 wr w.heap.size s3 ((es.take k).map En.key) ∧ Below w.heap.size w wr) (fun _ s9 _ => es.length - (intOf s9).toNat)
  case atStart => exact ⟨0, Nat.zero_le _, rfl, Gw.nil_ _ _, Below.refl _ _⟩
  case round =>
    obtain ⟨k, hk, rfl, hgw, hbl⟩ := hrel
    have HB := Lib.hid hbl
    by_cases hlt : k < es.length
    · obtain ⟨b, off, e, e1, -, hb, hdr, hg, c0, c1, c2, c3, c4⟩ := gsv_at HV.out hlt
      subst e1
      rw [← hbl.cell (p := ⟨b, off + k * 5, none⟩) hb] at c0
      rw [← hbl.cell (p := ⟨b, off + k * 5 + 1, none⟩) hb] at c1
      rw [← hbl.cell (p := ⟨b, off + k * 5 + 2, none⟩) hb] at c2
      rw [← hbl.cell (p := ⟨b, off + k * 5 + 3, none⟩) hb] at c3
      rw [← hbl.cell (p := ⟨b, off + k * 5 + 4, none⟩) hb] at c4
      have ht : (es.take (k + 1)).map En.key = (es.take k).map En.key ++ [e.key] := by
        rw [List.take_add_one, hg]; simp
      have HT := Lib.hid ht
      have hkl : (k : Int) < es.length := by omega
      have HW := Lib.hid hgw
      have HLEN := Lib.hid hlen
      clear hdr hg ht hbl hgw hlen
      have bz := bx wr (.cells #[.int .u16 e.key.toNat, .int .u8 e.b.κ, .slice e.b.A e.b.n e.b.c, .slice e.b.A2 e.b.n2 e.b.c2, .slice e.b.A3 e.b.n3 e.b.c3] 96)
      have HSZ : Hid ((wr.alloc (.cells #[.int .u16 e.key.toNat, .int .u8 e.b.κ, .slice e.b.A e.b.n e.b.c, .slice e.b.A2 e.b.n2 e.b.c2, .slice e.b.A3 e.b.n3 e.b.c3] 96)).heap.size = wr.heap.size + 1) := Lib.hid (by simp)
      have HW1 := Lib.hid (HW.out.below bz (Nat.le_refl _))
      have HB1 := Lib.hid (HB.out.trans (bz.mono HB.out.size))
      clear bz
      go_wp2_with (at_builtin; refine wpList_gapp1 (P := Tryz.prog) e16 _ rfl _ _ _ rfl w.heap.size sli16 inf16 _ ((es.take k).map En.key) rfl ?_ _ e.key ?_ ?_ ?_ ?_ ?_; (exact HW1.out); rfl; (rw [HSZ.out]; rfl); (have := HLEN.out; rw [List.length_map, List.length_take]; omega); (exact HB1.out.size); intro v' w' g1 g2 g3; have HG := Lib.hid g1; have HB2 := Lib.hid (HB1.out.grown g2 HB1.out.size (fun j hj => (HW1.out.lt j hj).1)); have hlen := HLEN.out; clear g1 g2 g3)
      refine ⟨⟨k + 1, by omega, by go_num, by rw [HT.out]; exact HG.out, HB2.out⟩, by simp [intOf]; omega⟩
    · obtain rfl : k = es.length := by omega
      rw [List.take_length, HD.out.keys (Nat.le_refl _), HL.out] at hgw
      have HG := Lib.hid hgw.sl
      clear hgw hbl
      go_wp2
      go_ret
      exact ⟨_, rfl, HG.out, HB.out⟩

end Go.Proofs.YtcmifbjeabkihaaGreatDoor
namespace Go.Proofs.YtcmifbjeabkihaaGreatDoor
open Go.RowKit
set_option linter.unusedVariables false

theorem lit32 (w : World) (l : List UInt32) (cs : Array Value) (n : Nat) (hcs : cs = (l.map e32.val).toArray) (hn : l.length = n) (hs : n ≤ 1000) :
    Gs e32 (w.alloc (.cells cs 28)) 0 (w.alloc (.cells cs 28)).heap.size (.slice (some ⟨w.heap.size, 0, none⟩) n n) l :=
  (Gw.lit (k := e32) w w.heap.size (Nat.le_refl _) l cs n hcs hn hs).sl.more (Nat.zero_le _) (Nat.le_refl _)
theorem lit_span2 (w : World) (s t : Sn) (cs : Array Value) (hcs : cs = (eSp.row [s, t]).toArray) :
    Gs2 eSp (w.alloc (.cells cs 34)) 0 (w.alloc (.cells cs 34)).heap.size (.slice (some ⟨w.heap.size, 0, none⟩) 2 2) [s, t] :=
  (Gw2.lit (k := eSp) w 0 (Nat.zero_le _) [s, t] cs 2 hcs rfl (by omega)).sl
/-- New, all in one. -/
def NewAns (w : World) (P : Nat → Bool) (e : Ending) (w' : World) : Prop :=
  ∃ b N', e = .returned (.pointer (some ⟨b, 0, none⟩)) ∧ b = w.heap.size ∧ Sx N' w' (.pointer (some ⟨b, 0, none⟩)) P b 65536 (.slice none 0 0) [] ∧ (∀ x, w'.heap.size ≤ x → N' x) ∧ Below w.heap.size w w'
theorem new_none (w : World) : Calls Tryz.prog 10 #[] w (NewAns w fun _ => false) :=
  (new_c (N := fun _ => True) (fun _ => false) w (fun _ _ => trivial)).mono fun e w' ⟨b, h1, h2, h3, h4, h5⟩ =>
    ⟨b, _, h1, h2, h3.skip (Nat.zero_le _) (fun k _ _ => nz_not.2 fun _ _ => rfl), fun x hx => h4.new x hx trivial, h5⟩
/-- AddRange to a set of none. -/
def RangeAns (w : World) (b : Nat) (lo hi : UInt64) (e : Ending) (w' : World) : Prop :=
  e = .returned (.tuple #[]) ∧ St (fun _ => True) w' (.pointer (some ⟨b, 0, none⟩)) (clp32 [(lo, hi)]) ∧ Off (fun x => x = b) w w'
theorem range_new {N : Nat → Prop} (b : Nat) (s : Value) (es : List En) (lo hi : UInt64) (m n : Int) (w : World) (hm : m = lo.toNat) (hn : n = hi.toNat) (hT : Tb w) (hN : ∀ x, w.heap.size ≤ x → N x) (S : Sx N w (.pointer (some ⟨b, 0, none⟩)) (fun _ => false) b 65536 s es) :
    Calls Tryz.prog 18 #[.pointer (some ⟨b, 0, none⟩), .int .u64 m, .int .u64 n] w (RangeAns w b lo hi) := by
  subst hm hn
  refine (addRange_c (fun _ => false) b s es lo hi _ _ w rfl rfl hT hN S).mono ?_
  rintro e w' ⟨h0, N', s', es', h1, h2, h3, h4⟩
  exact ⟨h0, (h1.st.ext fun x _ => or_no _).mono fun _ _ _ => trivial, h4⟩
def OfAns (w : World) (P : Nat → Bool) (e : Ending) (w' : World) : Prop :=
  ∃ b, e = .returned (.pointer (some ⟨b, 0, none⟩)) ∧ St (fun _ => True) w' (.pointer (some ⟨b, 0, none⟩)) P ∧ Below w.heap.size w w'
theorem Made.ans {N : Nat → Prop} {w w' : World} {P : Nat → Bool} {e : Ending} (h : Made N w P e w') : OfAns w P e w' := by
  obtain ⟨b, N', sl, es, h0, h1, h2, h3, h4, h5⟩ := h
  exact ⟨b, h0, h1.st.mono fun _ _ _ => trivial, h5⟩
theorem of_known (v : Value) (w : World) (hT : Tb w) (hv : Gs e32 w 0 w.heap.size v [5, 1]) : Calls Tryz.prog 30 #[v] w (OfAns w (mk32 [5, 1])) :=
  (of_small (N := fun _ => True) v [5, 1] w hT (fun _ _ => trivial) hv (by decide) (by simp) (by decide)).mono fun e w' h => h.ans
theorem not_known (v : Value) (w : World) (hT : Tb w) (h : St (fun _ => True) w v (mk32 [5, 1])) : Calls Tryz.prog 24 #[v, .int .u64 4] w (OfAns w kn) :=
  (setNot_c (N := fun _ => True) v (mk32 [5, 1]) (4 : UInt64) 4 w rfl hT (fun _ _ => trivial) h).mono fun e w' h => Made.ans h
def RunsAns (w : World) (l : List Sn) (e : Ending) (w' : World) : Prop :=
  ∃ A c, e = .returned (.slice A l.length c) ∧ Gs2 eSp w' 0 w'.heap.size (.slice A l.length c) l ∧ Below w.heap.size w w'
theorem runs_known (v : Value) (w : World) (hT : Tb w) (h : St (fun _ => True) w v kn) : Calls Tryz.prog 29 #[v] w (RunsAns w [(0, 1), (2, 4)]) := by
  refine (setruns_c v kn w hT h kn_ct).mono ?_
  rintro e w' ⟨v', l, rfl, h1, h2, h3, -, h5⟩
  have e := kn_runs h2 h3
  subst e
  have g := h1.sl.more (Nat.zero_le _) (Nat.le_refl w'.heap.size)
  obtain ⟨A, c, rfl, -⟩ := g
  exact ⟨A, c, rfl, h1.sl.more (Nat.zero_le _) (Nat.le_refl _), h5⟩
def KeysAns (w : World) (e : Ending) (w' : World) : Prop :=
  ∃ A c, e = .returned (.slice A 2 c) ∧ Gs e16 w' 0 w'.heap.size (.slice A 2 c) [0, 1] ∧ Below w.heap.size w w'
theorem keys_c (v : Value) (w : World) (h : St (fun _ => True) w v (clp32 [((65535 : UInt64), (65538 : UInt64))])) : Calls Tryz.prog 42 #[v] w (KeysAns w) := by
  refine (setkeys_c v _ w h).mono ?_
  rintro e w' ⟨v', rfl, h1, h2⟩
  rw [keys_known] at h1
  have g := h1.more (Nat.zero_le _) (Nat.le_refl w'.heap.size)
  obtain ⟨A, c, rfl, -⟩ := g
  exact ⟨A, c, rfl, h1.more (Nat.zero_le _) (Nat.le_refl _), h2⟩
theorem len_known (v : Value) (w : World) (h : St (fun _ => True) w v (clp32 [((65535 : UInt64), (65538 : UInt64))])) : Calls Tryz.prog 32 #[v] w fun e w' => e = .returned (.int .i64 3) ∧ Below w.heap.size w w' :=
  setlen_c v _ 3 w h (by rw [ct_clp32 _ _ _ (Nat.le_refl _)]; have e1 : (65535 : UInt64).toNat = 65535 := rfl; have e2 : (65538 : UInt64).toNat = 65538 := rfl; rw [e1, e2]; omega)
theorem rank_known (v : Value) (w : World) (h : St (fun _ => True) w v (clp32 [((65535 : UInt64), (65538 : UInt64))])) : Calls Tryz.prog 34 #[v, .int .u64 65537] w fun e w' => e = .returned (.int .i64 2) ∧ Below w.heap.size w w' :=
  setrank_c v _ 65537 2 w h (by rw [ct_clp32 _ _ _ (Nat.min_le_right _ _)]; have e1 : (65535 : UInt64).toNat = 65535 := rfl; have e2 : (65538 : UInt64).toNat = 65538 := rfl; rw [e1, e2]; omega)
theorem same_known (v u : Value) (w : World) (hv : Gs2 eSp w 0 w.heap.size v [(0, 1), (2, 4)]) (hu : Gs2 eSp w 0 w.heap.size u [(0, 1), (2, 4)]) : Calls Tryz.prog 28 #[v, u] w fun e w' => e = .returned (.bool true) ∧ Below w.heap.size w w' :=
  (refsame8 v u _ _ _ _ _ _ w hv hu).mono fun e w' ⟨h1, k, h2⟩ => ⟨by rw [h1]; simp, h2 ▸ below_drewN (Below.refl _ _) k⟩
set_option maxHeartbeats 8000000 in
theorem known8 (w : World) (hT : Tb w) : Calls Tryz.prog 9 #[] w fun e w' => e = .returned (.bool true) ∧ Below w.heap.size w w' := by
  have TT := Lib.hid hT
  clear hT
  go_enter Tryz.func9, Tryz.ntmps9
  go_wp2_with fail
  refine (new_none w).mono ?_
  rintro e w1 ⟨b, N1, rfl, hb, S, hn, b1⟩
  have S1 := Lib.hid S
  have HN1 := Lib.hid hn
  have B1 := Lib.hid b1
  have HB := Lib.hid hb
  clear S hn b1 hb
  go_wp2_with fail
  refine (range_new b _ _ (65535 : UInt64) (65538 : UInt64) 65535 65538 w1 rfl rfl (TT.out.step B1.out) HN1.out S1.out).mono ?_
  rintro e w2 ⟨rfl, T, o⟩
  have ST := Lib.hid T
  have B2 : Hid (Below w.heap.size w w2) := Lib.hid (B1.out.trans (o.below (fun k _ hk => by have := HB.out; omega) B1.out.size))
  clear T o S1 HN1
  go_wp2_with fail
  refine (keys_c _ w2 ST.out).mono ?_
  rintro e w3 ⟨A3, c3, rfl, g3, b3⟩
  have G3 := Lib.hid g3
  have ST3 := Lib.hid (ST.out.step b3)
  have B3 := Lib.hid (below_both B2.out b3)
  clear g3 b3 ST
  go_wp2_with fail
  have b4 := bx w3 (.cells #[.int .u32 5, .int .u32 1] 28)
  have g4 := lit32 w3 [5, 1] #[.int .u32 5, .int .u32 1] 2 (by rfl) rfl (by omega)
  generalize w3.alloc (.cells #[.int .u32 5, .int .u32 1] 28) = w4 at *
  have L4 := Lib.hid g4
  have G4 := Lib.hid (G3.out.step b4)
  have ST4 := Lib.hid (ST3.out.step b4)
  have B4 := Lib.hid (below_both B3.out b4)
  clear b4 g4 G3 ST3
  refine (of_known _ w4 (TT.out.step B4.out) L4.out).mono ?_
  rintro e w5 ⟨b5', rfl, t5, b5⟩
  have T5 := Lib.hid t5
  have G5 := Lib.hid (G4.out.step b5)
  have ST5 := Lib.hid (ST4.out.step b5)
  have B5 := Lib.hid (below_both B4.out b5)
  clear b5 t5 G4 ST4 L4
  go_wp2_with fail
  refine (not_known _ w5 (TT.out.step B5.out) T5.out).mono ?_
  rintro e w6 ⟨b6', rfl, t6, b6⟩
  have T6 := Lib.hid t6
  have G6 := Lib.hid (G5.out.step b6)
  have ST6 := Lib.hid (ST5.out.step b6)
  have B6 := Lib.hid (below_both B5.out b6)
  clear b6 t6 G5 ST5 T5
  go_wp2_with fail
  refine (runs_known _ w6 (TT.out.step B6.out) T6.out).mono ?_
  rintro e w7 ⟨A7, c7, rfl, g7, b7⟩
  have R7 := Lib.hid g7
  have G7 := Lib.hid (G6.out.step b7)
  have ST7 := Lib.hid (ST6.out.step b7)
  have B7 := Lib.hid (below_both B6.out b7)
  clear b7 g7 G6 ST6 T6
  go_wp2_with fail
  refine (len_known _ w7 ST7.out).mono ?_
  rintro e w8 ⟨rfl, b8⟩
  have R8 := Lib.hid (R7.out.step b8)
  have G8 := Lib.hid (G7.out.step b8)
  have ST8 := Lib.hid (ST7.out.step b8)
  have B8 := Lib.hid (below_both B7.out b8)
  clear b8 R7 G7 ST7
  obtain ⟨bk, ok, ck', ek, -, -, -, -, hk⟩ := G8.out.form (by simp)
  injection ek with ek1 ek2 ek3
  subst ek1
  have k1 : w8.cell? ⟨bk, ok + 1, none⟩ = some (.int .u16 1) := hk 1 1 rfl
  clear hk ek2 ek3
  go_wp2_with fail
  refine (rank_known _ w8 ST8.out).mono ?_
  rintro e w9 ⟨rfl, b9⟩
  have R9 := Lib.hid (R8.out.step b9)
  have B9 := Lib.hid (below_both B8.out b9)
  clear b9 R8 ST8 G8 k1
  go_wp2_with fail
  have b10 := bx w9 (.cells #[.int .u64 0, .int .u64 1, .int .u64 2, .int .u64 4] 34)
  have g10 := lit_span2 w9 ((0 : UInt64), (1 : UInt64)) ((2 : UInt64), (4 : UInt64)) #[.int .u64 0, .int .u64 1, .int .u64 2, .int .u64 4] (by rfl)
  generalize w9.alloc (.cells #[.int .u64 0, .int .u64 1, .int .u64 2, .int .u64 4] 34) = w10 at *
  have L10 := Lib.hid g10
  have R10 := Lib.hid (R9.out.step b10)
  have B10 := Lib.hid (below_both B9.out b10)
  clear b10 g10 R9
  refine (same_known _ _ w10 R10.out L10.out).mono ?_
  rintro e w11 ⟨rfl, b11⟩
  have B11 := Lib.hid (below_both B10.out b11)
  clear b11
  go_wp2
  go_ret
  exact ⟨rfl, B11.out⟩
end Go.Proofs.YtcmifbjeabkihaaGreatDoor
