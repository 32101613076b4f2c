/- MarkMaps: keys that are the same are one key of a map, others are two: in a map of keys there are as many as there are that are not the same. No conditions. -/
import Derived.Test.YtbfgnlpgfjokhaaMr
import Derived.Test.YtbfgnlpgfjokhaaWo
import Derived.Test.YtbfgnlpgfjokhaaUn
namespace Go.Proofs.Ytbfgnlpgfjokhaa
open Go.RowKit Go.Maps
open Go.WideShapes (okWide_slice)
theorem Keys_k (a b : Ky) (w : World) : Calls Try.prog 15 #[.agg #[.int .i64 a.1, .int .i64 a.2.1, .int .i64 a.2.2.1, .int .i64 a.2.2.2], .agg #[.int .i64 b.1, .int .i64 b.2.1, .int .i64 b.2.2.1, .int .i64 b.2.2.2]] w fun e w' => e = .returned (.int .i64 (kk a b)) ∧ Mod (fun _ => False) w w' := Keys _ _ _ _ _ _ _ _ w
theorem take_snoc (l : List Ky) (i : Nat) (x : Ky) (h : l[i]? = some x) : l.take (i + 1) = l.take i ++ [x] := by
  have hi : i < l.length := by
    rcases Nat.lt_or_ge i l.length with h' | h'
    · exact h'
    · rw [List.getElem?_eq_none h'] at h; cases h
  rw [List.take_succ_eq_append_getElem hi]
  have : l[i] = x := by rw [List.getElem?_eq_getElem hi] at h; exact Option.some.inj h
  rw [this]
theorem count_snoc (t : List Ky) (z x : Ky) : (t ++ [z]).count x = t.count x + if z = x then 1 else 0 := by
  rw [List.count_append]
  by_cases h : z = x
  · subst h; simp
  · have : List.count x [z] = 0 := by
      rw [List.count_eq_zero]
      simpa using fun e : x = z => h e.symm
    simp [h, this]
theorem mem_snoc (t : List Ky) (z x : Ky) : decide (x ∈ t ++ [z]) = (decide (x ∈ t) || decide (z = x)) := by
  by_cases h : x ∈ t <;> by_cases e : z = x
  · simp [h]
  · simp [h]
  · subst e; simp
  · have e' : ¬ x = z := fun q => e q.symm
    simp [h, e, e']
theorem count_le (t : List Ky) (x : Ky) : t.count x ≤ t.length := List.count_le_length
theorem Kl.at {w : World} {ao : Option Addr} {cap : Nat} {l : List Ky} (h : Kl w (.slice ao l.length cap) l) {i : Nat} {x : Ky} (hx : l[i]? = some x) : ∃ b off, ao = some ⟨b, off, none⟩ ∧ ∀ j z, l[j]? = some z → Kc w b (off + j * 4) z := by
  obtain ⟨ao', cap', e, _, _, h4⟩ := h
  simp only [Value.slice.injEq, true_and] at e
  obtain ⟨rfl, rfl⟩ := e
  exact h4 (by rintro rfl; simp at hx)
set_option maxRecDepth 100000 in
set_option maxHeartbeats 16000000 in
theorem maps_walk (ao : Option Addr) (cap : Nat) (l : List Ky) (w : World) (hl : Kl w (.slice ao l.length cap) l) (hok : ∀ k ∈ l, Kok k) (h60 : l.length ≤ 60) (kl : Ky → Lit) (KL : Klit kl) :
    Calls Try.prog 7 #[.slice ao l.length cap] w fun e w' => e = .returned (.bool true) ∧ Mod (fun _ => False) w w' := by
  have hmm := @run_makeMap Try.prog
  have HW := works
  have HK := Keys_k
  have HKZ : Hid (∀ a b : Ky, kk a b = 0 ↔ a = b) := fun a b => kk_zero
  generalize kk = f at HK HKZ
  have HL : Hid (Kl w (.slice ao l.length cap) l) := hl
  have HO : Hid (∀ k ∈ l, Kok k) := hok
  have H60 : Hid (l.length ≤ 60) := h60
  have h60' : (l.length : Int) ≤ 60 := by omega
  have HKL : Hid (Klit kl) := KL
  clear hl hok h60 KL
  go_enter Try.func7, Try.ntmps7
  go_wp2_with (fail)
  refine (HW _).mono ?_
  rintro e w1 ⟨rfl, hm⟩
  clear HW
  go_wp2
  have hB : Hid (w.heap.size ≤ w1.heap.size) := hm.size
  have hown : (w1.alloc (.map #[] 0)).ownsMap Try.prog 25 (plainElem (H := Unit) Try.prog 3) w1.heap.size 0 (.map []) := World.ownsMap_made _ _ _ _
  replace hm := hm.alloc (.map #[] 0)
  generalize w1.heap.size = B at *
  go_loopw [4, 5] (fun m i wr => ∃ (i' n : Nat) (D : DataW Unit), i = .int .i64 i' ∧ m = .int .i64 n ∧ i' ≤ l.length ∧ n ≤ i' ∧ Hid (wr.ownsMap Try.prog 25 (plainElem (H := Unit) Try.prog 3) B i' D) ∧ Hid (Cn kl D (l.take i')) ∧ Hid (Maps.size D = n) ∧ Mod (fun _ => False) w wr) (fun _ i _ => l.length - (intOf i).toNat)
  case atStart => exact ⟨0, 0, .map [], rfl, rfl, by omega, by omega, hown, Cn.zero kl, rfl, hm⟩
  case round =>
    clear hm hown
    obtain ⟨i, n, D, rfl, rfl, hi, hn, hown, hcn, hsz0, hm⟩ := hrel
    by_cases hlt : i < l.length
    · obtain ⟨x, hx⟩ : ∃ x, l[i]? = some x := ⟨_, List.getElem?_eq_getElem hlt⟩
      obtain ⟨b, off, rfl, hcells⟩ := HL.out.at hx
      have HX : Hid (l[i]? = some x) := hx
      have hxo : Kok x := HO.out x (List.mem_of_getElem? hx)
      have HXO : Hid (Kok x) := hxo
      have HC : Hid (∀ j z, l[j]? = some z → Kc w b (off + j * 4) z) := hcells
      have hkx : Hid (Kc wr b (off + i * 4) x) := (hcells i x hx).mod hm
      have h63 : i < maxLen := by have := H60.out; simp only [maxLen]; omega
      obtain ⟨c, hlook, hat, _⟩ := (hown.out.drew).lookup_int law25 Try.underlying43 Try.underlying3 (zero3 _) (HKL.out x hxo)
      rw [hcn.out.at' x hxo] at hat
      have hcc : c = ((l.take i).count x : Nat) := by simpa using hat.symm
      have hc60 : c + 1 ≤ 61 ∧ 0 ≤ c := by
        have h1 := count_le (l.take i) x
        have h2 : (l.take i).length ≤ 60 := by rw [List.length_take]; have := H60.out; omega
        omega
      have hwr : IntKind.i64.wrap (c + 1) = c + 1 := by rw [IntKind.wrap_i64]; omega
      obtain ⟨w', hupd, hown', hgrow⟩ := (hown.out.drew).update (d := .lit (.int .i64 (c + 1))) (ps := []) law25 Try.underlying43 h63 (HKL.out x hxo) (plainElem_int Try.underlying3 (WalkArith.wf_i64 (by omega)))
      have hcn' := hcn.out.step HKL.out hown.out.isMap hxo
      rw [← hcc, ← take_snoc l i x hx] at hcn'
      have hsz' := hcn.out.size (hown.out.tidy law25) hxo (.lit (.int .i64 (c + 1)))
      rw [hsz0.out] at hsz'
      have HS : Hid (Maps.size (D.put (kl x) (.lit (.int .i64 (c + 1)))) = if x ∈ l.take i then n else n + 1) := hsz'
      have HCN : Hid (Cn kl (D.put (kl x) (.lit (.int .i64 (c + 1)))) (l.take (i + 1))) := hcn'
      have HOW : Hid (w'.ownsMap Try.prog 25 (plainElem (H := Unit) Try.prog 3) B (i + 1) (D.put (kl x) (.lit (.int .i64 (c + 1))))) := hown'
      have HM' : Hid (Mod (fun _ => False) w w') := hm.drew.grown hgrow (fun k hk hlt => by cases hk; have := hB.out; omega)
      generalize D.put (kl x) (.lit (.int .i64 (c + 1))) = D' at HS HCN HOW
      clear hx hxo hcells hown' hgrow hcn' hsz' hat hm h63
      have hii : (i : Int) < (l.length : Int) := by omega
      go_wp2_with (fail)
      refine region7 b off l.length cap i B x c ⟨⟨_, rfl, rfl, rfl, rfl, by decide +kernel⟩⟩ ⟨⟨_, rfl, rfl, rfl, rfl, by decide +kernel⟩⟩ ⟨⟨_, rfl, rfl, rfl, rfl, by decide +kernel⟩⟩ ⟨⟨_, rfl, rfl, rfl, rfl, by decide +kernel⟩⟩ ⟨⟨_, rfl, rfl, rfl, rfl, by decide +kernel⟩⟩ ⟨⟨_, rfl, rfl, rfl, rfl, by decide +kernel⟩⟩ ⟨⟨_, rfl, rfl, rfl, rfl, by decide +kernel⟩⟩ ⟨⟨_, rfl, rfl, rfl, rfl, by decide +kernel⟩⟩ ⟨⟨_, rfl, rfl, rfl, rfl, by decide +kernel⟩⟩ ⟨⟨_, rfl, rfl, rfl, rfl, by decide +kernel⟩⟩ ⟨⟨_, rfl, rfl, rfl, rfl, by decide +kernel⟩⟩ ⟨⟨_, rfl, rfl, rfl, rfl, by decide +kernel⟩⟩ ⟨⟨_, rfl, rfl, rfl, rfl, by decide +kernel⟩⟩ rfl (by decide +kernel) (by decide +kernel) (by decide +kernel) (by decide +kernel) (by decide +kernel) (by decide +kernel) mixed rfl rfl rfl rfl hlt hkx.out hwr hlook hupd ?_
      intro y hsz hdf hr
      clear hlook hupd hwr hkx
      obtain ⟨⟨L0⟩, df⟩ := y
      simp only [List.size_toArray, List.length_cons, List.length_nil] at hsz
      obtain ⟨y0, L1, rfl, qq0⟩ := split1 hsz
      obtain ⟨y1, L2, rfl, qq1⟩ := split1 qq0
      obtain ⟨y2, L3, rfl, qq2⟩ := split1 qq1
      obtain ⟨y3, L4, rfl, qq3⟩ := split1 qq2
      obtain ⟨y4, L5, rfl, qq4⟩ := split1 qq3
      obtain ⟨y5, L6, rfl, qq5⟩ := split1 qq4
      obtain ⟨y6, L7, rfl, qq6⟩ := split1 qq5
      obtain ⟨y7, L8, rfl, qq7⟩ := split1 qq6
      obtain ⟨y8, L9, rfl, qq8⟩ := split1 qq7
      obtain ⟨y9, L10, rfl, qq9⟩ := split1 qq8
      obtain ⟨y10, L11, rfl, qq10⟩ := split1 qq9
      obtain ⟨y11, L12, rfl, qq11⟩ := split1 qq10
      obtain ⟨y12, L13, rfl, qq12⟩ := split1 qq11
      obtain ⟨y13, L14, rfl, qq13⟩ := split1 qq12
      obtain ⟨y14, L15, rfl, qq14⟩ := split1 qq13
      obtain ⟨y15, L16, rfl, qq15⟩ := split1 qq14
      obtain ⟨y16, L17, rfl, qq16⟩ := split1 qq15
      obtain ⟨y17, L18, rfl, qq17⟩ := split1 qq16
      obtain ⟨y18, L19, rfl, qq18⟩ := split1 qq17
      obtain ⟨y19, L20, rfl, qq19⟩ := split1 qq18
      obtain ⟨y20, L21, rfl, qq20⟩ := split1 qq19
      obtain ⟨y21, L22, rfl, qq21⟩ := split1 qq20
      obtain ⟨y22, L23, rfl, qq22⟩ := split1 qq21
      obtain ⟨y23, L24, rfl, qq23⟩ := split1 qq22
      obtain ⟨y24, L25, rfl, qq24⟩ := split1 qq23
      obtain ⟨y25, L26, rfl, qq25⟩ := split1 qq24
      obtain ⟨y26, L27, rfl, qq26⟩ := split1 qq25
      obtain ⟨y27, L28, rfl, qq27⟩ := split1 qq26
      obtain ⟨y28, L29, rfl, qq28⟩ := split1 qq27
      obtain ⟨y29, L30, rfl, qq29⟩ := split1 qq28
      obtain ⟨y30, L31, rfl, qq30⟩ := split1 qq29
      obtain ⟨y31, L32, rfl, qq31⟩ := split1 qq30
      obtain ⟨y32, L33, rfl, qq32⟩ := split1 qq31
      obtain ⟨y33, L34, rfl, qq33⟩ := split1 qq32
      obtain ⟨y34, L35, rfl, qq34⟩ := split1 qq33
      obtain ⟨y35, L36, rfl, qq35⟩ := split1 qq34
      obtain ⟨y36, L37, rfl, qq36⟩ := split1 qq35
      obtain ⟨y37, L38, rfl, qq37⟩ := split1 qq36
      obtain ⟨y38, L39, rfl, qq38⟩ := split1 qq37
      obtain ⟨y39, L40, rfl, qq39⟩ := split1 qq38
      obtain ⟨y40, L41, rfl, qq40⟩ := split1 qq39
      obtain ⟨y41, L42, rfl, qq41⟩ := split1 qq40
      obtain ⟨y42, L43, rfl, qq42⟩ := split1 qq41
      obtain ⟨y43, L44, rfl, qq43⟩ := split1 qq42
      obtain ⟨y44, L45, rfl, qq44⟩ := split1 qq43
      obtain ⟨y45, L46, rfl, qq45⟩ := split1 qq44
      obtain ⟨y46, L47, rfl, qq46⟩ := split1 qq45
      obtain ⟨y47, L48, rfl, qq47⟩ := split1 qq46
      obtain ⟨y48, L49, rfl, qq48⟩ := split1 qq47
      obtain ⟨y49, L50, rfl, qq49⟩ := split1 qq48
      obtain ⟨y50, L51, rfl, qq50⟩ := split1 qq49
      obtain ⟨y51, L52, rfl, qq51⟩ := split1 qq50
      obtain ⟨y52, L53, rfl, qq52⟩ := split1 qq51
      obtain ⟨y53, L54, rfl, qq53⟩ := split1 qq52
      obtain ⟨y54, L55, rfl, qq54⟩ := split1 qq53
      obtain ⟨y55, L56, rfl, qq55⟩ := split1 qq54
      obtain ⟨y56, L57, rfl, qq56⟩ := split1 qq55
      obtain ⟨y57, L58, rfl, qq57⟩ := split1 qq56
      obtain ⟨y58, L59, rfl, qq58⟩ := split1 qq57
      obtain ⟨y59, L60, rfl, qq59⟩ := split1 qq58
      obtain ⟨y60, L61, rfl, qq60⟩ := split1 qq59
      obtain ⟨y61, L62, rfl, qq61⟩ := split1 qq60
      obtain ⟨y62, L63, rfl, qq62⟩ := split1 qq61
      obtain ⟨y63, L64, rfl, qq63⟩ := split1 qq62
      obtain ⟨y64, L65, rfl, qq64⟩ := split1 qq63
      obtain ⟨y65, L66, rfl, qq65⟩ := split1 qq64
      obtain ⟨y66, L67, rfl, qq66⟩ := split1 qq65
      obtain ⟨y67, L68, rfl, qq67⟩ := split1 qq66
      obtain ⟨y68, L69, rfl, qq68⟩ := split1 qq67
      obtain ⟨y69, L70, rfl, qq69⟩ := split1 qq68
      obtain ⟨y70, L71, rfl, qq70⟩ := split1 qq69
      obtain ⟨y71, L72, rfl, qq71⟩ := split1 qq70
      obtain ⟨y72, L73, rfl, qq72⟩ := split1 qq71
      obtain ⟨y73, L74, rfl, qq73⟩ := split1 qq72
      obtain ⟨y74, L75, rfl, qq74⟩ := split1 qq73
      obtain ⟨y75, L76, rfl, qq75⟩ := split1 qq74
      obtain ⟨y76, L77, rfl, qq76⟩ := split1 qq75
      obtain ⟨y77, L78, rfl, qq77⟩ := split1 qq76
      obtain ⟨y78, L79, rfl, qq78⟩ := split1 qq77
      obtain ⟨y79, L80, rfl, qq79⟩ := split1 qq78
      obtain ⟨y80, L81, rfl, qq80⟩ := split1 qq79
      obtain ⟨y81, L82, rfl, qq81⟩ := split1 qq80
      obtain ⟨y82, L83, rfl, qq82⟩ := split1 qq81
      obtain ⟨y83, L84, rfl, qq83⟩ := split1 qq82
      obtain ⟨y84, L85, rfl, qq84⟩ := split1 qq83
      obtain ⟨y85, L86, rfl, qq85⟩ := split1 qq84
      obtain ⟨y86, L87, rfl, qq86⟩ := split1 qq85
      obtain ⟨y87, L88, rfl, qq87⟩ := split1 qq86
      obtain ⟨y88, L89, rfl, qq88⟩ := split1 qq87
      obtain ⟨y89, L90, rfl, qq89⟩ := split1 qq88
      obtain ⟨y90, L91, rfl, qq90⟩ := split1 qq89
      obtain ⟨y91, L92, rfl, qq91⟩ := split1 qq90
      obtain rfl := split0 qq91
      have g0 := hr 0 (by decide +kernel)
      have g1 := hr 1 (by decide +kernel)
      have g2 := hr 2 (by decide +kernel)
      have g3 := hr 3 (by decide +kernel)
      have g4 := hr 4 (by decide +kernel)
      have g5 := hr 5 (by decide +kernel)
      have g6 := hr 6 (by decide +kernel)
      have g7 := hr 7 (by decide +kernel)
      have g8 := hr 8 (by decide +kernel)
      have g9 := hr 9 (by decide +kernel)
      have g10 := hr 10 (by decide +kernel)
      have g11 := hr 11 (by decide +kernel)
      have g12 := hr 12 (by decide +kernel)
      have g13 := hr 13 (by decide +kernel)
      have g14 := hr 14 (by decide +kernel)
      have g15 := hr 15 (by decide +kernel)
      have g16 := hr 16 (by decide +kernel)
      have g17 := hr 17 (by decide +kernel)
      have g18 := hr 18 (by decide +kernel)
      have g19 := hr 19 (by decide +kernel)
      have g20 := hr 20 (by decide +kernel)
      have g21 := hr 21 (by decide +kernel)
      have g22 := hr 22 (by decide +kernel)
      have g35 := hr 35 (by decide +kernel)
      have g36 := hr 36 (by decide +kernel)
      have g37 := hr 37 (by decide +kernel)
      have g38 := hr 38 (by decide +kernel)
      have g39 := hr 39 (by decide +kernel)
      have g40 := hr 40 (by decide +kernel)
      have g41 := hr 41 (by decide +kernel)
      have g42 := hr 42 (by decide +kernel)
      have g43 := hr 43 (by decide +kernel)
      have g44 := hr 44 (by decide +kernel)
      have g45 := hr 45 (by decide +kernel)
      have g46 := hr 46 (by decide +kernel)
      have g47 := hr 47 (by decide +kernel)
      have g48 := hr 48 (by decide +kernel)
      have g49 := hr 49 (by decide +kernel)
      have g50 := hr 50 (by decide +kernel)
      have g51 := hr 51 (by decide +kernel)
      have g52 := hr 52 (by decide +kernel)
      have g53 := hr 53 (by decide +kernel)
      have g54 := hr 54 (by decide +kernel)
      have g55 := hr 55 (by decide +kernel)
      have g56 := hr 56 (by decide +kernel)
      have g57 := hr 57 (by decide +kernel)
      have g58 := hr 58 (by decide +kernel)
      have g59 := hr 59 (by decide +kernel)
      have g60 := hr 60 (by decide +kernel)
      have g61 := hr 61 (by decide +kernel)
      have g62 := hr 62 (by decide +kernel)
      have g63 := hr 63 (by decide +kernel)
      have g64 := hr 64 (by decide +kernel)
      have g65 := hr 65 (by decide +kernel)
      have g66 := hr 66 (by decide +kernel)
      have g67 := hr 67 (by decide +kernel)
      have g68 := hr 68 (by decide +kernel)
      have g69 := hr 69 (by decide +kernel)
      have g70 := hr 70 (by decide +kernel)
      have g71 := hr 71 (by decide +kernel)
      have g72 := hr 72 (by decide +kernel)
      have g73 := hr 73 (by decide +kernel)
      have g74 := hr 74 (by decide +kernel)
      have g75 := hr 75 (by decide +kernel)
      have g76 := hr 76 (by decide +kernel)
      have g77 := hr 77 (by decide +kernel)
      have g78 := hr 78 (by decide +kernel)
      have g79 := hr 79 (by decide +kernel)
      have g80 := hr 80 (by decide +kernel)
      have g81 := hr 81 (by decide +kernel)
      have g82 := hr 82 (by decide +kernel)
      have g83 := hr 83 (by decide +kernel)
      have g84 := hr 84 (by decide +kernel)
      have g85 := hr 85 (by decide +kernel)
      have g86 := hr 86 (by decide +kernel)
      have g87 := hr 87 (by decide +kernel)
      have g88 := hr 88 (by decide +kernel)
      have g89 := hr 89 (by decide +kernel)
      have g90 := hr 90 (by decide +kernel)
      have g91 := hr 91 (by decide +kernel)
      simp at g0 g1 g2 g3 g4 g5 g6 g7 g8 g9 g10 g11 g12 g13 g14 g15 g16 g17 g18 g19 g20 g21 g22 g35 g36 g37 g38 g39 g40 g41 g42 g43 g44 g45 g46 g47 g48 g49 g50 g51 g52 g53 g54 g55 g56 g57 g58 g59 g60 g61 g62 g63 g64 g65 g66 g67 g68 g69 g70 g71 g72 g73 g74 g75 g76 g77 g78 g79 g80 g81 g82 g83 g84 g85 g86 g87 g88 g89 g90 g91 hdf
      subst g0 g1 g2 g3 g4 g5 g6 g7 g8 g9 g10 g11 g12 g13 g14 g15 g16 g17 g18 g19 g20 g21 g22 g35 g36 g37 g38 g39 g40 g41 g42 g43 g44 g45 g46 g47 g48 g49 g50 g51 g52 g53 g54 g55 g56 g57 g58 g59 g60 g61 g62 g63 g64 g65 g66 g67 g68 g69 g70 g71 g72 g73 g74 g75 g76 g77 g78 g79 g80 g81 g82 g83 g84 g85 g86 g87 g88 g89 g90 g91 hdf
      clear hr qq0 qq1 qq2 qq3 qq4 qq5 qq6 qq7 qq8 qq9 qq10 qq11 qq12 qq13 qq14 qq15 qq16 qq17 qq18 qq19 qq20 qq21 qq22 qq23 qq24 qq25 qq26 qq27 qq28 qq29 qq30 qq31 qq32 qq33 qq34 qq35 qq36 qq37 qq38 qq39 qq40 qq41 qq42 qq43 qq44 qq45 qq46 qq47 qq48 qq49 qq50 qq51 qq52 qq53 qq54 qq55 qq56 qq57 qq58 qq59 qq60 qq61 qq62 qq63 qq64 qq65 qq66 qq67 qq68 qq69 qq70 qq71 qq72 qq73 qq74 qq75 qq76 qq77 qq78 qq79 qq80 qq81 qq82 qq83 qq84 qq85 qq86 qq87 qq88 qq89 qq90 qq91
      have HM2 := HM'
      have HOW2 := HOW
      clear hc60 hcc hown hcn hsz0 HM' HOW hlt
      go_wp2
      go_loopw [6, 7] (fun fi k wr => ∃ (k' : Nat) (fb : Bool), k = .int .i64 k' ∧ fi = .bool fb ∧ k' ≤ i ∧ Hid (fb = !decide (x ∈ l.take k')) ∧ Hid (wr.ownsMap Try.prog 25 (plainElem (H := Unit) Try.prog 3) B (i + 1) D') ∧ Hid (Mod (fun _ => False) w wr)) (fun _ k _ => i - (intOf k).toNat)
      case atStart => exact ⟨0, true, rfl, rfl, by omega, by simp [Hid], HOW2, HM2⟩
      case round =>
        clear HM2 HOW2
        obtain ⟨k, fb, rfl, rfl, hk, hfb, hown, hm⟩ := hrel
        by_cases hlt : k < i
        · have hki : (k : Int) < (i : Int) := by omega
          have hkl : (k : Int) < (l.length : Int) := by omega
          obtain ⟨z, hz⟩ : ∃ z, l[k]? = some z := ⟨_, List.getElem?_eq_getElem (by omega)⟩
          have hx1 := (HC.out i x HX.out).mod hm.out
          have hz1 := (HC.out k z hz).mod hm.out
          have HT : Hid (decide (x ∈ l.take (k + 1)) = (decide (x ∈ l.take k) || decide (z = x))) := by rw [Hid, take_snoc l k z hz, mem_snoc]
          clear hz
          cases fb with
          | false =>
            have hf2 : Hid (decide (x ∈ l.take (k + 1)) = true) := by
              have h1 : decide (x ∈ l.take k) = true := by have := hfb.out; revert this; cases decide (x ∈ l.take k) <;> simp
              rw [Hid, HT.out, h1]
              rfl
            have hm3 : Hid (∀ n, Mod (fun _ => False) w (wr.drewN n)) := fun n => hm.out.drewN n
            have hown3 : Hid (∀ n, (wr.drewN n).ownsMap Try.prog 25 (plainElem (H := Unit) Try.prog 3) B (i + 1) D') := fun n => hown.out
            clear hx1 hz1 hfb HT hm hown
            go_wp2_with (fail)
            go_big_quiet ((fail))
            go_wp2
            go_roundw
            case rel => exact ⟨k + 1, false, by go_num, rfl, by omega, by rw [Hid, hf2.out]; rfl, hown3.out _, hm3.out _⟩
            case measure => simp [intOf]; omega
          | true =>
            have hf2 : Hid (decide (x ∈ l.take (k + 1)) = decide (z = x)) := by
              have h1 : decide (x ∈ l.take k) = false := by have := hfb.out; revert this; cases decide (x ∈ l.take k) <;> simp
              rw [Hid, HT.out, h1]
              rfl
            obtain ⟨a0, a1, a2, a3⟩ := hx1
            obtain ⟨c0, c1, c2, c3⟩ := hz1
            clear hfb HT
            go_wp2_with (fail)
            replace hm := hm.out.drew
            replace hown := hown.out.drew
            go_region_held3 (fun y => y.cell? ⟨b, off + i * 4, none⟩ = some (.int .i64 x.1) ∧ y.cell? ⟨b, off + i * 4 + 1, none⟩ = some (.int .i64 x.2.1) ∧ y.cell? ⟨b, off + i * 4 + 2, none⟩ = some (.int .i64 x.2.2.1) ∧ y.cell? ⟨b, off + i * 4 + 3, none⟩ = some (.int .i64 x.2.2.2) ∧ y.cell? ⟨b, off + k * 4, none⟩ = some (.int .i64 z.1) ∧ y.cell? ⟨b, off + k * 4 + 1, none⟩ = some (.int .i64 z.2.1) ∧ y.cell? ⟨b, off + k * 4 + 2, none⟩ = some (.int .i64 z.2.2.1) ∧ y.cell? ⟨b, off + k * 4 + 3, none⟩ = some (.int .i64 z.2.2.2)) (first | exact ⟨a0, a1, a2, a3, c0, c1, c2, c3⟩ | go_keep)
              (first | (go_at_call 15; refine (HK z x _).mono ?_; rintro e w2 ⟨rfl, hn⟩; replace a0 := hn.cell a0 (fun h => h); replace a1 := hn.cell a1 (fun h => h); replace a2 := hn.cell a2 (fun h => h); replace a3 := hn.cell a3 (fun h => h); replace c0 := hn.cell c0 (fun h => h); replace c1 := hn.cell c1 (fun h => h); replace c2 := hn.cell c2 (fun h => h); replace c3 := hn.cell c3 (fun h => h); replace hm := hm.and hn; replace hown := owns_mod hown hn; clear hn))
            have HD : Hid ((f z x != 0) = !decide (z = x)) := by
              have := HKZ.out z x
              rw [Hid]
              by_cases e : z = x
              · rw [this.2 e]
                simp [e]
              · have : ¬ f z x = 0 := fun q => e (this.1 q)
                simp [e, this]
            go_wp2
            go_roundw
            case rel => exact ⟨k + 1, f z x != 0, by go_num, rfl, by omega, by rw [Hid, HD.out, hf2.out], hown, hm⟩
            case measure => simp [intOf]; omega
        · obtain rfl : k = i := by omega
          clear hlt
          cases fb with
          | false =>
            have hin : decide (x ∈ l.take k) = true := by have := hfb.out; revert this; cases decide (x ∈ l.take k) <;> simp
            have hs2 : Hid (Maps.size D' = n) := by have := HS.out; rw [if_pos (of_decide_eq_true hin)] at this; exact this
            clear HS hin hfb
            go_wp2
            go_roundw
            case rel => exact ⟨k + 1, n, D', by go_num, by go_num, by omega, by omega, hown, HCN, hs2, hm.out⟩
            case measure => simp [intOf]; omega
          | true =>
            have hin : decide (x ∈ l.take k) = false := by have := hfb.out; revert this; cases decide (x ∈ l.take k) <;> simp
            have hs2 : Hid (Maps.size D' = n + 1) := by have := HS.out; rw [if_neg (of_decide_eq_false hin)] at this; exact this
            clear HS hin hfb
            have hn60 : (n : Int) ≤ 60 := by have := H60.out; omega
            go_wp2
            go_roundw
            case rel => exact ⟨k + 1, n + 1, D', by go_num, by go_num, by omega, by omega, hown, HCN, hs2, hm.out⟩
            case measure => simp [intOf]; omega
    · obtain rfl : i = l.length := by omega
      have hcn2 : Hid (Cn kl D l) := by have := hcn.out; rw [List.take_length] at this; exact this
      have hown2 := hown
      have hm2 : Hid (Mod (fun _ => False) w wr) := hm
      clear hcn hown hm hlt hn hi
      go_wp2
      go_loopw [8] (fun i wr => ∃ i' : Nat, i = .int .i64 i' ∧ i' ≤ l.length ∧ Hid (wr.ownsMap Try.prog 25 (plainElem (H := Unit) Try.prog 3) B l.length D) ∧ Hid (Mod (fun _ => False) w wr)) (fun i _ => l.length - (intOf i).toNat)
      case atStart => exact ⟨0, rfl, by omega, hown2, hm2⟩
      case round =>
        clear hown2 hm2
        obtain ⟨i, rfl, hi, hown2, hm2⟩ := hrel
        by_cases hlt : i < l.length
        · obtain ⟨x, hx⟩ : ∃ x, l[i]? = some x := ⟨_, List.getElem?_eq_getElem hlt⟩
          obtain ⟨b, off, rfl, hcells⟩ := HL.out.at hx
          have HX : Hid (l[i]? = some x) := hx
          have HXO : Hid (Kok x) := HO.out x (List.mem_of_getElem? hx)
          have HC : Hid (∀ j z, l[j]? = some z → Kc w b (off + j * 4) z) := hcells
          have hii : (i : Int) < (l.length : Int) := by omega
          clear hx hcells
          go_wp2
          go_loopw [9, 10] (fun sm k wr => ∃ k' : Nat, k = .int .i64 k' ∧ sm = .int .i64 (((l.take k').count x : Nat) : Int) ∧ k' ≤ l.length ∧ Hid (wr.ownsMap Try.prog 25 (plainElem (H := Unit) Try.prog 3) B l.length D) ∧ Hid (Mod (fun _ => False) w wr)) (fun _ k _ => l.length - (intOf k).toNat)
          case atStart => exact ⟨0, rfl, by simp, by omega, hown2, hm2⟩
          case round =>
            clear hown2 hm2
            obtain ⟨k, rfl, rfl, hk, hown2, hm2⟩ := hrel
            by_cases hkl0 : k < l.length
            · have hkl : (k : Int) < (l.length : Int) := by omega
              obtain ⟨z, hz⟩ : ∃ z, l[k]? = some z := ⟨_, List.getElem?_eq_getElem hkl0⟩
              obtain ⟨a0, a1, a2, a3⟩ := (HC.out i x HX.out).mod hm2.out
              obtain ⟨c0, c1, c2, c3⟩ := (HC.out k z hz).mod hm2.out
              have HT : Hid ((l.take (k + 1)).count x = (l.take k).count x + if z = x then 1 else 0) := by rw [Hid, take_snoc l k z hz, count_snoc]
              have hcl : Hid ((l.take k).count x ≤ 60) := by
                have h1 := count_le (l.take k) x
                rw [List.length_take] at h1
                have h2 := H60.out
                show _ ≤ _
                omega
              generalize hq : (l.take k).count x = q at *
              clear hz hq
              go_wp2_with (fail)
              have hm := hm2.out.drew
              have hown := hown2.out.drew
              clear hm2 hown2
              go_region_held3 (fun y => y.cell? ⟨b, off + i * 4, none⟩ = some (.int .i64 x.1) ∧ y.cell? ⟨b, off + i * 4 + 1, none⟩ = some (.int .i64 x.2.1) ∧ y.cell? ⟨b, off + i * 4 + 2, none⟩ = some (.int .i64 x.2.2.1) ∧ y.cell? ⟨b, off + i * 4 + 3, none⟩ = some (.int .i64 x.2.2.2) ∧ y.cell? ⟨b, off + k * 4, none⟩ = some (.int .i64 z.1) ∧ y.cell? ⟨b, off + k * 4 + 1, none⟩ = some (.int .i64 z.2.1) ∧ y.cell? ⟨b, off + k * 4 + 2, none⟩ = some (.int .i64 z.2.2.1) ∧ y.cell? ⟨b, off + k * 4 + 3, none⟩ = some (.int .i64 z.2.2.2)) (first | exact ⟨a0, a1, a2, a3, c0, c1, c2, c3⟩ | go_keep)
                (first | (go_at_call 15; refine (HK z x _).mono ?_; rintro e w2 ⟨rfl, hn⟩; replace a0 := hn.cell a0 (fun h => h); replace a1 := hn.cell a1 (fun h => h); replace a2 := hn.cell a2 (fun h => h); replace a3 := hn.cell a3 (fun h => h); replace c0 := hn.cell c0 (fun h => h); replace c1 := hn.cell c1 (fun h => h); replace c2 := hn.cell c2 (fun h => h); replace c3 := hn.cell c3 (fun h => h); replace hm := hm.and hn; replace hown := owns_mod hown hn; clear hn))
              by_cases e : z = x
              · have e0 := (HKZ.out z x).2 e
                have hq : Hid ((l.take (k + 1)).count x = q + 1) := by have := HT.out; rw [if_pos e] at this; exact this
                have hq60 : (q : Int) ≤ 60 := by have := hcl.out; omega
                clear HT hcl e
                go_wp2
                go_roundw
                case rel => exact ⟨k + 1, by go_num, by rw [hq.out]; go_num, by omega, hown, hm⟩
                case measure => simp [intOf]; omega
              · have e0 : ¬ f z x = 0 := fun q => e ((HKZ.out z x).1 q)
                have hq : Hid ((l.take (k + 1)).count x = q) := by have := HT.out; rw [if_neg e] at this; exact this
                clear HT hcl e
                go_wp2
                go_roundw
                case rel => exact ⟨k + 1, by go_num, by rw [hq.out], by omega, hown, hm⟩
                case measure => simp [intOf]; omega
            · obtain rfl : k = l.length := by omega
              obtain ⟨a0, a1, a2, a3⟩ := (HC.out i x HX.out).mod hm2.out
              obtain ⟨c, hlook, hat, _⟩ := hown2.out.lookup_int law25 Try.underlying43 Try.underlying3 (zero3 _) (HKL.out x HXO.out)
              rw [hcn2.out.at' x HXO.out] at hat
              have hcc : c = ((l.count x : Nat) : Int) := by simpa using hat.symm
              subst hcc
              have hlk : (Instr.lookup 43 (.map (some B)) (.agg #[.int .i64 x.1, .int .i64 x.2.1, .int .i64 x.2.2.1, .int .i64 x.2.2.2]) false).run Try.prog wr = .ok (.int .i64 ((l.count x : Nat) : Int)) wr := hlook
              have htk : Hid ((l.take l.length).count x = l.count x) := by rw [Hid, List.take_length]
              rw [htk.out]
              generalize l.count x = q at *
              clear hat hlook hkl0 hk htk
              go_wp2
              go_roundw
              case rel => exact ⟨i + 1, by go_num, by omega, hown2, hm2⟩
              case measure => simp [intOf]; omega
        · have hlen := fun ty => hown2.out.len Try.underlying43 ty
          rw [hsz0.out] at hlen
          obtain rfl : i = l.length := by omega
          go_wp2
          go_ret
          exact ⟨by simp, hm2.out⟩
theorem walkMaps (v : Value) (l : List Ky) (w : World) (hl : Kl w v l) (hok : ∀ k ∈ l, Kok k) :
    Calls Try.prog 7 #[v] w fun e w' => e = .returned (.bool true) ∧ Mod (fun _ => False) w w' := by
  obtain ⟨ao, cap, rfl, h1, h2, h3⟩ := hl
  by_cases h : l.length ≤ 60
  · obtain ⟨kl, KL⟩ := klit_ex
    exact maps_walk ao cap l w ⟨ao, cap, rfl, h1, h2, h3⟩ hok h kl KL
  · have HW := works
    have hbig : (60 : Int) < (l.length : Int) := by omega
    clear h3 hok h
    go_enter Try.func7, Try.ntmps7
    go_wp2_with (fail)
    refine (HW _).mono ?_
    rintro e w1 ⟨rfl, hm⟩
    go_wp2
    go_ret
    exact ⟨rfl, hm⟩
namespace markMaps
open Go.ChangeShapes Go.WideShapes Go.ChangeAt Go.RowKit
set_option maxRecDepth 100000 in
theorem lifted (os : Os) (started : os.Started) (H : Type) (enc : TypeId × Value → H) :
    ReturnsInHanded {} Try.checked os 7 .any (Rows.markMapsSpec.pre6 enc Try.prog Try.f7 Rows.markMapsRow.domain false) (Rows.markMapsSpec.post enc Try.prog Try.f7 false true false false) := by
  refine returnsInHanded_of_change_sized (C := Try.checked) own started (by kernel_rfl) Try.func7
    (ChangeSpec.witness6 (enc := enc) (C := Try.checked) false ⟨#[], #[.slice none 0 0], []⟩ 8 (by kernel_rfl) (by kernel_rfl) (by kernel_rfl) (by kernel_rfl)) ?_
  intro W base args ds gs before hval0 hW hcnd hsz0 _
  have hval : ∀ (j : Nat) t v, Try.f7.params[j]? = some t → args[j]? = some v → Value.okWide Try.prog W .any base t v := hval0
  have hsz : (DataW.weightsEach Try.prog (Try.f7.params.toList ++ Rows.markMapsSpec.plain.varTypes Try.prog) (ds ++ gs)).all (· ≤ reachBytes) = true := hsz0
  have hW' := hW
  obtain ⟨p, q, hA0, hV, rfl, hfz, hnd⟩ := hW
  have hA : DataW.TrodAll enc Try.prog W 0 (fun _ => true) true Try.f7.params.toList args.toList ds p := hA0
  rw [Try.params7] at hA hval hsz
  obtain ⟨v0, vs0, d0, ds0, p0, q0, hargs, rfl, rfl, h0, r0⟩ := trodAll_cons hA
  obtain ⟨rfl, rfl, rfl⟩ := trodAll_nil r0
  obtain rfl : args = #[v0] := by cases args; simp_all
  obtain ⟨rfl, rfl⟩ := trodVars_none hV
  have k0 := h0
  have lt0 : ∀ x ∈ p0, x.block < W.heap.size := by obtain ⟨m, hm⟩ := k0; exact DataW.trod_lt m _ _ _ hm
  obtain ⟨L0, hL0, hO0⟩ := open_keys h0 (okWide_slice Try.underlying42 (hval 0 42 v0 rfl rfl))
  clear hA0 hval0
  refine (walkMaps v0 L0 W hL0 hO0).mono fun e W' ⟨he, hm⟩ => ?_
  subst he
  have bel : Below W.heap.size W W' := hm.below _ (Nat.le_refl _) (fun _ h => h.elim)
  exact ⟨_, rfl, _, _, _, [], _, [], hW', trodAll_mk1 (shut_bool Try.underlying4 _), (trodAll_cons_mk (Below.trod laidOut (by kernel_rfl) (of_decide_eq_true (by kernel_rfl)) k0 bel lt0) trodAll_mk0), rfl, bel.frame _, fun h => by cases h⟩

theorem over : Rows.markMapsRow.holds Try.pinned (OpenSpec.ofChange Rows.markMapsSpec) :=
  OpenClaim.holds_of_wide 7 Try.f7 rfl rfl rfl rfl rfl rfl rfl ⟨rfl, rfl, rfl, rfl, rfl⟩ rfl rfl rfl rfl rfl (by kernel_rfl) Try.func7 (by kernel_rfl)
    (of_decide_eq_true (by kernel_rfl)) (by unfold Func.isWrapper; first | (rw [if_pos (by decide +kernel)]; kernel_rfl) | (rw [if_neg (by decide +kernel)]; exact ⟨rfl, rfl⟩))
    (fun os started H enc _ => lifted os started H enc)
end markMaps
theorem markMaps_holds : Rows.MarkMapsSaid := markMaps.over
end Go.Proofs.Ytbfgnlpgfjokhaa
